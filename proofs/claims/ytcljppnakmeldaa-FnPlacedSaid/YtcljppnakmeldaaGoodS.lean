/-
  What GoodScene answers in the specification.
-/
import Derived.Test.YtcljppnakmeldaaGood
namespace Go.Proofs.Ytcljppnakmeldaa
open Go.ChangeShapes Go.WideShapes Go.ChangeAt Go.RowKit

set_option maxRecDepth 100000 in
set_option maxHeartbeats 4000000 in
theorem specGood (l : List NodeD) (v : Value) (lo hi : Nat) (w : World) (ho : NodeO w lo hi v l) (hn : l.length ≤ 1048576) (hs : ∀ p ∈ l, p.1.size ≤ 1048576) :
    Calls Try.prog 21 #[v] w fun e w' => BoolEnd (GoodL l) e ∧ Kept w w' := by
  obtain ⟨ao, cap, hsl, hcap⟩ := own_cap ho.1
  have hv := ho.at
  clear ho
  subst hsl
  by_cases h40 : 40 < l.length
  · go_enter Try.func21, Try.ntmps21
    go_wp2
    go_ret
    exact ⟨⟨false, rfl, by simp [GoodL]; intro h; omega⟩, But.refl _ _ _⟩
  · have h40' : decide (40 < (l.length : Int)) = false := by simp; omega
    go_enter Try.func21, Try.ntmps21
    go_wp2
    go_loopw [3, 4, 6, 12] (fun _ _ _ i wr => ∃ k : Nat, k ≤ l.length ∧ i = .int .i64 k ∧ (∀ (j : Nat) n, j < k → l[j]? = some n → okN l j n) ∧ Kept w wr) (fun _ _ _ i _ => l.length - (intOf i).toNat)
    case atStart => exact ⟨0, by omega, rfl, fun j o hj => by omega, But.refl _ _ _⟩
    case round =>
      obtain ⟨k, hk, rfl, hok, hkp⟩ := hrel
      by_cases hlt : k < l.length
      · obtain ⟨⟨nm, up, x, y, t, f⟩, hp⟩ : ∃ p, l[k]? = some p := ⟨_, List.getElem?_eq_getElem hlt⟩
        obtain ⟨b, o, cap1, e, c0, c1, c2, c3, c4, c5⟩ := node_get (hv.kept hkp) hp
        cases e
        have hsz := hs _ (List.mem_of_getElem? hp)
        dsimp only at hsz c0 c1 c2 c3 c4 c5
        have hkc : k ≤ cap := by omega
        have hkc' : (k : Int) ≤ (cap : Int) := by omega
        have HO : Hid _ := hok
        have HK : Hid _ := hkp
        have HP : Hid _ := hp
        clear hok hkp hp
        cases q1 : nameB nm with
        | false =>
          repeat (first | (go_at_call 53; refine (sname nm _ hsz).mono ?_; rintro e w' ⟨rfl, rfl⟩; rw [q1]; dsimp only) | go_values | go_skip | go_guarded | go_step | go_upon)
          go_ret
          refine ⟨⟨false, rfl, by simp only [Bool.false_eq_true, false_iff]; intro h; have hk0 := h.2 k _ HP.out; exact by rw [okN, q1] at hk0; cases hk0.1⟩, ?_⟩
          (repeat (first | with_reducible exact HK.out | with_reducible apply But.drewN | with_reducible apply But.drew | with_reducible apply But.alloc))
        | true =>
          cases q2 : inB up (-1) ((k : Int) - 1) with
          | false =>
            repeat (first | (go_at_call 53; refine (sname nm _ hsz).mono ?_; rintro e w' ⟨rfl, rfl⟩; rw [q1]; dsimp only) | (go_at_call 48; refine (l1In _ _ _ _).mono ?_; rintro e w' ⟨rfl, rfl⟩; rw [q2]; dsimp only) | go_values | go_skip | go_guarded | go_step | go_upon)
            go_ret
            refine ⟨⟨false, rfl, by simp only [Bool.false_eq_true, false_iff]; intro h; have hk0 := h.2 k _ HP.out; exact inB_false.1 q2 ⟨hk0.2.1, by have := hk0.2.2.1; dsimp only at this; omega⟩⟩, ?_⟩
            (repeat (first | with_reducible exact HK.out | with_reducible apply But.drewN | with_reducible apply But.drew | with_reducible apply But.alloc))
          | true =>
            by_cases hg : GoodS (x, y, t, f)
            · have q4 := (goodS_iff _).2 hg
              repeat (first | (go_at_call 53; refine (sname nm _ hsz).mono ?_; rintro e w' ⟨rfl, rfl⟩; rw [q1]; dsimp only) | (go_at_call 48; refine (l1In _ _ _ _).mono ?_; rintro e w' ⟨rfl, rfl⟩; rw [q2]; dsimp only) | (go_at_call 54; refine (l4Spot (nm, up, x, y, t, f) _).mono ?_; rintro e w' ⟨rfl, o1, o2, kk, rfl⟩; dsimp only [spotN, sv]) | (go_at_call 41; refine (sgood _ _ _ _ _).mono ?_; rintro e w' ⟨rfl, rfl⟩; rw [q4]; dsimp only) | go_values | go_skip | go_guarded | go_step | go_upon)
              clear c0 c1 c2 c3 c4 c5
              have q2' := inB_true.1 q2
              have HQ : Hid (nameB nm = true ∧ -1 ≤ up ∧ up ≤ (k : Int) - 1 ∧ GoodS (x, y, t, f)) := ⟨q1, q2'.1, q2'.2, hg⟩
              clear q1 q2 q2' q4 hg
              go_loopw [6, 39] (fun _ i ur => ∃ j : Nat, j ≤ k ∧ i = .int .i64 j ∧ (∀ (m : Nat) q, m < j → l[m]? = some q → sameN q (nm, up, x, y, t, f) = false) ∧ Loc ur wr.heap.size [.string nm, .int .i64 up, .int .i64 x, .int .i64 y, .int .i64 t, .bool f] ∧ Kept w ur) (fun _ i _ => k - (intOf i).toNat)
              case atStart =>
                refine ⟨0, by omega, rfl, fun m q hm => by omega, ?_, by (repeat (first | with_reducible exact HK.out | with_reducible apply But.drewN | with_reducible apply But.drew | with_reducible apply But.alloc))⟩
                exact (Loc.new wr [.string nm, .int .i64 up, .int .i64 x, .int .i64 y, .int .i64 t, .bool f] 36).kept (by repeat (first | with_reducible exact But.refl _ _ _ | with_reducible apply But.drewN | with_reducible apply But.drew | with_reducible apply But.alloc))
              case round =>
                obtain ⟨j, hj, rfl, hno, hL, hkj⟩ := hrel
                by_cases hjk : j < k
                · obtain ⟨⟨nm', up', x', y', t', f'⟩, hp'⟩ : ∃ p, l[j]? = some p := ⟨_, List.getElem?_eq_getElem (by omega)⟩
                  obtain ⟨b', o', cap1', e', d0, d1, d2, d3, d4, d5⟩ := node_get (hv.kept hkj) hp'
                  cases e'
                  dsimp only at d0 d1 d2 d3 d4 d5
                  have l0 := hL.cell 0 rfl
                  have l1 := hL.cell 1 rfl
                  have hlw := hL.lt
                  have HN : Hid _ := hno
                  have HL : Hid (Loc _ _ _) := hL
                  have HJ : Hid _ := hkj
                  have HP' : Hid _ := hp'
                  clear hno hL hkj hp'
                  cases r1 : (up' == up) with
                  | false =>
                    go_wp2
                    refine ⟨⟨j + 1, hjk, by go_num, fun m q hm hq => ?_, Loc.alloc HL.out _, HJ.out.alloc _⟩, by simp [intOf]; omega⟩
                    by_cases hmj : m = j
                    · subst hmj
                      have := HP'.out
                      rw [this] at hq
                      cases hq
                      simp only [sameN, r1, Bool.false_and]
                    · exact HN.out m q (by omega) hq
                  | true =>
                    cases r2 : (nm'.toList == nm.toList) with
                    | false =>
                      go_wp2
                      refine ⟨⟨j + 1, hjk, by go_num, fun m q hm hq => ?_, Loc.alloc HL.out _, HJ.out.alloc _⟩, by simp [intOf]; omega⟩
                      by_cases hmj : m = j
                      · subst hmj
                        have := HP'.out
                        rw [this] at hq
                        cases hq
                        simp only [sameN, r2, Bool.and_false]
                      · exact HN.out m q (by omega) hq
                    | true =>
                      go_wp2
                      go_ret
                      refine ⟨⟨false, rfl, ?_⟩, HJ.out.alloc _⟩
                      simp only [Bool.false_eq_true, false_iff]
                      intro h
                      have hk0 := (h.2 k _ HP.out).2.2.2.2
                      have : ((l.take k).any fun o => sameN o (nm, up, x, y, t, f)) = true := List.any_eq_true.2 ⟨(nm', up', x', y', t', f'), List.mem_iff_getElem?.2 ⟨j, by rw [List.getElem?_take, if_pos hjk]; exact HP'.out⟩, by simp only [sameN, r1, r2, Bool.and_self]⟩
                      rw [this] at hk0
                      cases hk0
                · have hke : j = k := by omega
                  subst hke
                  have HN : Hid _ := hno
                  have HJ : Hid _ := hkj
                  clear hno hkj hL
                  go_wp2
                  refine ⟨⟨j + 1, hlt, by go_num, fun m q hm hq => ?_, HJ.out⟩, by simp [intOf]; omega⟩
                  by_cases hmj : m = j
                  · subst hmj
                    have := HP.out
                    rw [this] at hq
                    cases hq
                    obtain ⟨a1, a2, a3, a4⟩ := HQ.out
                    refine ⟨a1, a2, by dsimp only; omega, a4, ?_⟩
                    rw [List.any_eq_false]
                    intro z hz
                    obtain ⟨i, hi⟩ := List.mem_iff_getElem?.1 hz
                    rw [List.getElem?_take] at hi
                    split at hi
                    · rename_i him
                      simpa using HN.out i z him hi
                    · cases hi
                  · exact HO.out m q (by omega) hq
            · have q4 := goodS_no hg
              repeat (first | (go_at_call 53; refine (sname nm _ hsz).mono ?_; rintro e w' ⟨rfl, rfl⟩; rw [q1]; dsimp only) | (go_at_call 48; refine (l1In _ _ _ _).mono ?_; rintro e w' ⟨rfl, rfl⟩; rw [q2]; dsimp only) | (go_at_call 54; refine (l4Spot (nm, up, x, y, t, f) _).mono ?_; rintro e w' ⟨rfl, o1, o2, kk, rfl⟩; dsimp only [spotN, sv]) | (go_at_call 41; refine (sgood _ _ _ _ _).mono ?_; rintro e w' ⟨rfl, rfl⟩; rw [q4]; dsimp only) | go_values | go_skip | go_guarded | go_step | go_upon)
              go_ret
              refine ⟨⟨false, rfl, by simp only [Bool.false_eq_true, false_iff]; intro h; have hk0 := h.2 k _ HP.out; exact absurd hk0.2.2.2.1 hg⟩, ?_⟩
              (repeat (first | with_reducible exact HK.out | with_reducible apply But.drewN | with_reducible apply But.drew | with_reducible apply But.alloc))
      · have hke : k = l.length := by omega
        subst hke
        go_wp2
        go_ret
        exact ⟨⟨true, rfl, by simp only [true_iff]; exact ⟨by omega, fun i n h => hok i n (List.getElem?_eq_some_iff.1 h).1 h⟩⟩, hkp⟩
end Go.Proofs.Ytcljppnakmeldaa
