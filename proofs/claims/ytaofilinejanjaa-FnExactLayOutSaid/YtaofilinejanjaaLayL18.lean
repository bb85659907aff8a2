/-
  Pads, rows and columns.
-/
import Derived.Test.YtaofilinejanjaaLayP18
import Derived.Test.YtaofilinejanjaaLeaf18
namespace Go.Proofs.Ytaofilinejanjaa
open Go.ChangeShapes Go.WideShapes Go.ChangeAt Go.RowKit

set_option maxRecDepth 100000
set_option linter.unusedVariables false

def asP (lay : Int) (p : PlacedD) : PlacedD := if lay = 2 then (p.2.1, p.1, p.2.2.2, p.2.2.1) else p
theorem asP_kid (lay : Int) (r : PlacedD) (off s : Int) : asP lay ((asP lay r).1 + off, (asP lay r).2.1, s, (asP lay r).2.2.2) = kidP lay r off s := by
  unfold asP kidP
  by_cases h : lay = 2 <;> simp [h]
theorem asP_room (lay : Int) (r : PlacedD) : (asP lay r).2.2.1 = roomL lay r := by
  unfold asP roomL
  by_cases h : lay = 2 <;> simp [h]
theorem sleast (n : Int) (w : World) : Calls Try.prog 39 #[.int .i64 n] w fun e w' => e = .returned (.int .i64 (pos0 n)) ∧ w' = w := by
  unfold pos0
  by_cases h : n < 0
  · rw [if_pos h]
    go_enter Try.func39, Try.ntmps39
    go_wp2
    go_ret
    exact ⟨rfl, rfl⟩
  · rw [if_neg h]
    go_enter Try.func39, Try.ntmps39
    go_wp2
    go_ret
    exact ⟨rfl, rfl⟩
set_option maxHeartbeats 4000000 in
theorem iasRow (x y a b lay : Int) (w : World) : Calls Try.prog 50 #[.agg #[.int .i64 x, .int .i64 y, .int .i64 a, .int .i64 b], .int .i64 lay] w fun e w' => e = .returned (.agg #[.int .i64 (asP lay (x, y, a, b)).1, .int .i64 (asP lay (x, y, a, b)).2.1, .int .i64 (asP lay (x, y, a, b)).2.2.1, .int .i64 (asP lay (x, y, a, b)).2.2.2]) ∧ Kept w w' := by
  unfold asP
  by_cases h : lay = 2
  · rw [if_pos h]
    have d : (lay == 2) = true := by simp [h]
    clear h
    go_enter Try.func50, Try.ntmps50
    go_wp2
    refine bodyPost_ret (v := .agg #[.int .i64 y, .int .i64 x, .int .i64 b, .int .i64 a]) (by simp [results, Try.results50, go_sem, *]) rfl ?_
    exact ⟨rfl, (by repeat (first | with_reducible exact But.refl _ _ _ | with_reducible apply But.alloc | (with_reducible refine But.setNew ?_ (by simp; try omega) _)))⟩
  · rw [if_neg h]
    have d : (lay == 2) = false := by simp [h]
    clear h
    go_enter Try.func50, Try.ntmps50
    go_wp2
    refine bodyPost_ret (v := .agg #[.int .i64 x, .int .i64 y, .int .i64 a, .int .i64 b]) (by simp [results, Try.results50, go_sem, *]) rfl ?_
    exact ⟨rfl, (by repeat (first | with_reducible exact But.refl _ _ _ | with_reducible apply But.alloc | (with_reducible refine But.setNew ?_ (by simp; try omega) _)))⟩
theorem pos0_no {n : Int} (h : n ≤ 0) : pos0 n = 0 := by unfold pos0; split <;> omega
theorem pos0_yes {n : Int} (h : ¬ n ≤ 0) : pos0 n = n := by unfold pos0; split <;> omega
set_option maxHeartbeats 4000000 in
theorem iwithin (x y a b pad : Int) (w : World) (hx : 0 ≤ x ∧ x ≤ 100000000) (hy : 0 ≤ y ∧ y ≤ 100000000) (ha : 0 ≤ a ∧ a ≤ 10000) (hb : 0 ≤ b ∧ b ≤ 10000) (hp : 0 ≤ pad ∧ pad ≤ 100) : Calls Try.prog 51 #[.agg #[.int .i64 x, .int .i64 y, .int .i64 a, .int .i64 b], .int .i64 pad] w fun e w' => e = .returned (.agg #[.int .i64 (padP (x, y, a, b) pad).1, .int .i64 (padP (x, y, a, b) pad).2.1, .int .i64 (padP (x, y, a, b) pad).2.2.1, .int .i64 (padP (x, y, a, b) pad).2.2.2]) ∧ Kept w w' := by
  unfold padP
  obtain ⟨hx0, hx1⟩ := hx
  obtain ⟨hy0, hy1⟩ := hy
  obtain ⟨ha0, ha1⟩ := ha
  obtain ⟨hb0, hb1⟩ := hb
  obtain ⟨hp0, hp1⟩ := hp
  by_cases h1 : a - 2 * pad ≤ 0
  · by_cases h2 : b - 2 * pad ≤ 0
    · rw [pos0_no h1, pos0_no h2]
      go_enter Try.func51, Try.ntmps51
      go_wp2
      all_goals try omega
      all_goals
        refine bodyPost_ret (v := .agg #[.int .i64 (x + pad), .int .i64 (y + pad), .int .i64 (0), .int .i64 (0)]) (by simp [results, Try.results51, go_sem, *]) rfl ?_
        exact ⟨rfl, (by repeat (first | with_reducible exact But.refl _ _ _ | with_reducible apply But.alloc | (with_reducible refine But.setNew ?_ (by simp; try omega) _)))⟩
    · rw [pos0_no h1, pos0_yes h2]
      go_enter Try.func51, Try.ntmps51
      go_wp2
      all_goals try omega
      all_goals
        refine bodyPost_ret (v := .agg #[.int .i64 (x + pad), .int .i64 (y + pad), .int .i64 (0), .int .i64 (b - 2 * pad)]) (by simp [results, Try.results51, go_sem, *]) rfl ?_
        exact ⟨rfl, (by repeat (first | with_reducible exact But.refl _ _ _ | with_reducible apply But.alloc | (with_reducible refine But.setNew ?_ (by simp; try omega) _)))⟩
  · by_cases h2 : b - 2 * pad ≤ 0
    · rw [pos0_yes h1, pos0_no h2]
      go_enter Try.func51, Try.ntmps51
      go_wp2
      all_goals try omega
      all_goals
        refine bodyPost_ret (v := .agg #[.int .i64 (x + pad), .int .i64 (y + pad), .int .i64 (a - 2 * pad), .int .i64 (0)]) (by simp [results, Try.results51, go_sem, *]) rfl ?_
        exact ⟨rfl, (by repeat (first | with_reducible exact But.refl _ _ _ | with_reducible apply But.alloc | (with_reducible refine But.setNew ?_ (by simp; try omega) _)))⟩
    · rw [pos0_yes h1, pos0_yes h2]
      go_enter Try.func51, Try.ntmps51
      go_wp2
      all_goals try omega
      all_goals
        refine bodyPost_ret (v := .agg #[.int .i64 (x + pad), .int .i64 (y + pad), .int .i64 (a - 2 * pad), .int .i64 (b - 2 * pad)]) (by simp [results, Try.results51, go_sem, *]) rfl ?_
        exact ⟨rfl, (by repeat (first | with_reducible exact But.refl _ _ _ | with_reducible apply But.alloc | (with_reducible refine But.setNew ?_ (by simp; try omega) _)))⟩

end Go.Proofs.Ytaofilinejanjaa
