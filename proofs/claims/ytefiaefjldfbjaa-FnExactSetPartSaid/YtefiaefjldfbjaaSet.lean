/-
  What SetPart comes to, at each world, Id, name and value: the same in the program and in its specification.
-/
import Derived.Test.YtefiaefjldfbjaaDrop
import Derived.Test.YtefiaefjldfbjaaSetI
import Derived.Test.YtefiaefjldfbjaaSetS
import Derived.Test.YtefiaefjldfbjaaSetO
namespace Go.Proofs.Ytefiaefjldfbjaa
open Go.ChangeShapes Go.WideShapes Go.ChangeAt Go.RowKit

/-- Where a name would stand among rising ones. -/
theorem cut_at (ps : List PD) (nm : ByteArray) (hr : RiseP ps) : ∃ j, CuttingP ps nm j j ∧ j ≤ ps.length := by
  induction ps with
  | nil => exact ⟨0, ⟨fun t x h => by omega, fun t x _ h => by simp at h⟩, by simp⟩
  | cons p ps ih =>
    obtain ⟨j, hj, hl⟩ := ih (fun i j x y h hx hy => hr (i + 1) (j + 1) x y (by omega) (by simpa using hx) (by simpa using hy))
    cases hp : less p.1 nm with
    | true =>
      refine ⟨j + 1, ⟨fun t x ht hx => ?_, fun t x ht hx => ?_⟩, by simp; omega⟩
      · cases t with
        | zero => simp at hx; subst hx; exact hp
        | succ t => exact hj.1 t x (by omega) (by simpa using hx)
      · cases t with
        | zero => omega
        | succ t => exact hj.2 t x (by omega) (by simpa using hx)
    | false =>
      refine ⟨0, ⟨fun t x ht hx => by omega, fun t x ht hx => ?_⟩, by simp⟩
      cases t with
      | zero => simp at hx; subst hx; exact hp
      | succ t =>
        have h1 := hr 0 (t + 1) p x (by omega) (by simp) hx
        cases hx2 : less x.1 nm with
        | false => rfl
        | true => rw [less_trans h1 hx2] at hp; cases hp
theorem cut_found {ps : List PD} {nm : ByteArray} (hr : RiseP ps) {j : Nat} {p : PD} (hj : ps[j]? = some p) (hp : p.1 = nm) : CuttingP ps nm j j := by
  subst hp
  refine ⟨fun t x ht hx => hr t j x p ht hx hj, fun t x ht hx => ?_⟩
  rcases Nat.lt_or_eq_of_le ht with h | h
  · exact less_asym (hr j t p x h hj hx)
  · subst h
    rw [hj] at hx
    cases hx
    exact less_irr _

theorem set_both (D : WD) (id : Int) (nm : ByteArray) (val : Int) (hnl : nm.size ≤ 1048576) (hc : ecost D.2.2 ≤ 1048576) : ∃ (D' : WD) (r : Int), Small D'.2.2 ∧ kcnt D'.2.2 ≤ 900000000000 ∧
    (∀ (u : World) (lo hi : Nat) (v : Value), WO u lo hi v D → Calls Try.prog 32 #[v, .int .i64 id, .string nm, .int .i64 val] u fun e u' => ∃ v', e = .returned (.tuple #[v', .int .i64 r]) ∧ WO u' u.heap.size u'.heap.size v' D' ∧ Kept u u') ∧
    (∀ (u : World) (lo hi : Nat) (v : Value), WO u lo hi v D → Calls Try.prog 33 #[v, .int .i64 id, .string nm, .int .i64 val] u fun e u' => ∃ v', e = .returned (.tuple #[v', .int .i64 r]) ∧ WO u' u.heap.size u'.heap.size v' D' ∧ Kept u u') := by
  by_cases hg : GoodW D
  · cases hnm : nameB nm with
    | false => exact ⟨D, 4, small_of hc, kcnt_of hc, specSetName D id nm val hg hnl hnm hc, implSetCode D id nm val D 0 4 (reachName D id nm hg hnl hnm hc) rfl⟩
    | true =>
      by_cases hex : ∃ (k : Nat) (e : ED), D.2.2[k]? = some e ∧ e.1 = id
      · obtain ⟨k, e, hk, he⟩ := hex
        have hR := reachOk D id nm k e hg hnl hnm hk he hc
        have hrp : RiseP e.2 := riseP_of (hg.2.2.2.2.2 k e hk).2.2.2
        have h12 := (hg.2.2.2.2.2 k e hk).2.2.2.1
        by_cases hpx : ∃ (j : Nat) (p : PD), e.2[j]? = some p ∧ p.1 = nm
        · obtain ⟨j, p, hj, hp⟩ := hpx
          have hsm := small_set (k := k) (e' := (e.1, e.2.set j (nm, val, D.2.1))) hc (by simp only [List.length_set]; omega)
          have hjl := (List.getElem?_eq_some_iff.1 hj).1
          exact ⟨(D.1, D.2.1, D.2.2.set k (e.1, e.2.set j (nm, val, D.2.1))), 0, hsm.1, hsm.2, specSetOk D id nm val k e j _ 0 hg hnl hnm hk he (cut_found hrp hj hp) (by omega) (.inl ⟨p, hj, hp, rfl, rfl⟩) hc, implSetFound D id nm val k e j p hg hk he hj hp hR⟩
        · have hno : ∀ p ∈ e.2, p.1 ≠ nm := fun p hp h => by
            obtain ⟨j, hj⟩ := List.mem_iff_getElem?.1 hp
            exact hpx ⟨j, p, hj, h⟩
          obtain ⟨j, hjc, hjl⟩ := cut_at e.2 nm hrp
          by_cases hfl : e.2.length = 12
          · exact ⟨D, 3, small_of hc, kcnt_of hc, specSetOk D id nm val k e j _ 3 hg hnl hnm hk he hjc hjl (.inr (.inl ⟨hno, hfl, rfl, rfl⟩)) hc, implSetFull D id nm val k e hg hk he hno hfl hR⟩
          · have hsm := small_set (k := k) (e' := (e.1, e.2.take j ++ [(nm, val, D.2.1)] ++ e.2.drop j)) hc (by simp; omega)
            exact ⟨(D.1, D.2.1, D.2.2.set k (e.1, e.2.take j ++ [(nm, val, D.2.1)] ++ e.2.drop j)), 0, hsm.1, hsm.2, specSetOk D id nm val k e j _ 0 hg hnl hnm hk he hjc hjl (.inr (.inr ⟨hno, by omega, rfl, rfl⟩)) hc, implSetNew D id nm val k e j hg hk he hno (by omega) hjc hjl hR⟩
      · have hno : ∀ e ∈ D.2.2, e.1 ≠ id := fun e he h => by
          obtain ⟨k, hk⟩ := List.mem_iff_getElem?.1 he
          exact hex ⟨k, e, hk, h⟩
        exact ⟨D, 2, small_of hc, kcnt_of hc, specSetNone D id nm val hg hnl hnm hno hc, implSetCode D id nm val D 0 2 (reachNone D id nm hg hnl hnm hno hc) rfl⟩
  · exact ⟨DZ, 1, ⟨by simp [DZ], by simp [DZ]⟩, by simp [DZ, kcnt], specSetBad D id nm val hg hc, implSetCode D id nm val DZ 0 1 (reachBad D id nm hg hc) rfl⟩
end Go.Proofs.Ytefiaefjldfbjaa
