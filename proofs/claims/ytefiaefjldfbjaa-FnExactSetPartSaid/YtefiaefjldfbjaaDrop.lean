/-
  What DropPart comes to, at each world, Id and name: the same in the program and in its specification.
-/
import Derived.Test.YtefiaefjldfbjaaDropI
import Derived.Test.YtefiaefjldfbjaaDropS
namespace Go.Proofs.Ytefiaefjldfbjaa
open Go.ChangeShapes Go.WideShapes Go.ChangeAt Go.RowKit

theorem kcnt_cons (x : ED) (l : List ED) : kcnt (x :: l) = (1 + 3 * x.2.length) + kcnt l := by simp [kcnt]
theorem kcnt_set : ∀ (l : List ED) (k : Nat) (e : ED), kcnt (l.set k e) ≤ kcnt l + (1 + 3 * e.2.length)
  | [], k, e => by simp [kcnt]
  | x :: l, 0, e => by rw [List.set_cons_zero, kcnt_cons, kcnt_cons]; omega
  | x :: l, k + 1, e => by
    have := kcnt_set l k e
    rw [List.set_cons_succ, kcnt_cons, kcnt_cons]
    omega
theorem small_set {D : WD} {k : Nat} {e' : ED} (hc : ecost D.2.2 ≤ 1048576) (hl : e'.2.length ≤ 13) : Small (D.2.2.set k e') ∧ kcnt (D.2.2.set k e') ≤ 900000000000 := by
  have h1 := small_of hc
  refine ⟨⟨by rw [List.length_set]; exact h1.1, fun x hx => ?_⟩, ?_⟩
  · rcases List.mem_or_eq_of_mem_set hx with h | rfl
    · exact h1.2 x h
    · omega
  · have := kcnt_set D.2.2 k e'
    have := kcnt_le D.2.2
    omega

theorem drop_both (D : WD) (id : Int) (nm : ByteArray) (hnl : nm.size ≤ 1048576) (hc : ecost D.2.2 ≤ 1048576) : ∃ (D' : WD) (r : Int), Small D'.2.2 ∧ kcnt D'.2.2 ≤ 900000000000 ∧
    (∀ (u : World) (lo hi : Nat) (v : Value), WO u lo hi v D → Calls Try.prog 34 #[v, .int .i64 id, .string nm] u fun e u' => ∃ v', e = .returned (.tuple #[v', .int .i64 r]) ∧ WO u' u.heap.size u'.heap.size v' D' ∧ Kept u u') ∧
    (∀ (u : World) (lo hi : Nat) (v : Value), WO u lo hi v D → Calls Try.prog 35 #[v, .int .i64 id, .string nm] u fun e u' => ∃ v', e = .returned (.tuple #[v', .int .i64 r]) ∧ WO u' u.heap.size u'.heap.size v' D' ∧ Kept u u') := by
  by_cases hg : GoodW D
  · cases hnm : nameB nm with
    | false => exact ⟨D, 4, small_of hc, kcnt_of hc, specDropName D id nm hg hnl hnm hc, implDropCode D id nm D 0 4 (reachName D id nm hg hnl hnm hc) rfl⟩
    | true =>
      by_cases hex : ∃ (k : Nat) (e : ED), D.2.2[k]? = some e ∧ e.1 = id
      · obtain ⟨k, e, hk, he⟩ := hex
        have hR := reachOk D id nm k e hg hnl hnm hk he hc
        by_cases hpx : ∃ (j : Nat) (p : PD), e.2[j]? = some p ∧ p.1 = nm
        · obtain ⟨j, p, hj, hp⟩ := hpx
          have h12 := (hg.2.2.2.2.2 k e hk).2.2.2.1
          have hl := List.length_eraseIdx_le e.2 j
          have hsm := small_set (k := k) (e' := (e.1, e.2.eraseIdx j)) hc (by simp only; omega)
          exact ⟨(D.1, D.2.1, D.2.2.set k (e.1, e.2.eraseIdx j)), 0, hsm.1, hsm.2, specDropOk D id nm k e j p hg hnl hnm hk he hj hp hc, implDropOk D id nm k e j p hg hk he hj hp hR⟩
        · have hno : ∀ p ∈ e.2, p.1 ≠ nm := fun p hp h => by
            obtain ⟨j, hj⟩ := List.mem_iff_getElem?.1 hp
            exact hpx ⟨j, p, hj, h⟩
          exact ⟨D, 2, small_of hc, kcnt_of hc, specDropNoPart D id nm k e hg hnl hnm hk he hno hc, implDropNone D id nm k e hg hk he hno hR⟩
      · have hno : ∀ e ∈ D.2.2, e.1 ≠ id := fun e he h => by
          obtain ⟨k, hk⟩ := List.mem_iff_getElem?.1 he
          exact hex ⟨k, e, hk, h⟩
        exact ⟨D, 2, small_of hc, kcnt_of hc, specDropNone D id nm hg hnl hnm hno hc, implDropCode D id nm D 0 2 (reachNone D id nm hg hnl hnm hno hc) rfl⟩
  · exact ⟨DZ, 1, ⟨by simp [DZ], by simp [DZ]⟩, by simp [DZ, kcnt], specDropBad D id nm hg hc, implDropCode D id nm DZ 0 1 (reachBad D id nm hg hc) rfl⟩
end Go.Proofs.Ytefiaefjldfbjaa
