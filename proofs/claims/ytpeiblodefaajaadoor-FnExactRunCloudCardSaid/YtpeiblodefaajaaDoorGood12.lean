/-
  Which emitters are good, on both sides.
-/
import Derived.Test.YtpeiblodefaajaaDoorRows
import Derived.Test.YtpeiblodefaajaaDoorEmit
import Derived.WalkKit
import Derived.ProofKit
import Derived.OpenShut
import Derived.Handy
namespace Go.Proofs.YtpeiblodefaajaaDoor
open Go.ChangeShapes Go.WideShapes Go.ChangeAt Go.RowKit

set_option maxRecDepth 100000
set_option linter.unusedVariables false
theorem ret_bool {a b : Bool} (h : a = b) : Ending.returned (.bool a) = .returned (.bool b) := by rw [h]
theorem sIn (x lo hi : Int) (w : World) : Calls Tryd.prog 31 #[.int .i64 x, .int .i64 lo, .int .i64 hi] w fun e w' => e = .returned (.bool (decide (lo ≤ x ∧ x ≤ hi))) ∧ w' = w := by
  go_enter Tryd.func31, Tryd.ntmps31
  go_wp2
  all_goals
    go_ret
    exact ⟨ret_bool (by first | (rw [Bool.eq_iff_iff]; simp; omega) | (simp; omega)), rfl⟩
theorem ithrow (x : Int) (w : World) : Calls Tryd.prog 52 #[.int .i64 x] w fun e w' => e = .returned (.bool (decide (-1000000 ≤ x ∧ x ≤ 1000000))) ∧ w' = w := by
  go_enter Tryd.func52, Tryd.ntmps52
  go_wp2
  all_goals
    go_ret
    exact ⟨ret_bool (by first | (rw [Bool.eq_iff_iff]; simp; omega) | (simp; omega)), rfl⟩
theorem ispan (x : Int) (w : World) : Calls Tryd.prog 53 #[.int .i64 x] w fun e w' => e = .returned (.bool (decide (1 ≤ x ∧ x ≤ 200))) ∧ w' = w := by
  go_enter Tryd.func53, Tryd.ntmps53
  go_wp2
  all_goals
    go_ret
    exact ⟨ret_bool (by first | (rw [Bool.eq_iff_iff]; simp; omega) | (simp; omega)), rfl⟩
/-- An emitter as the functions take it. -/
def EmitP (x y ev bu li sv fa : Int) : Prop := (-1000000 ≤ x ∧ x ≤ 1000000) ∧ (-1000000 ≤ y ∧ y ≤ 1000000) ∧ (-1000000 ≤ fa ∧ fa ≤ 1000000) ∧ (1 ≤ ev ∧ ev ≤ 200) ∧ (0 ≤ bu ∧ bu ≤ 20) ∧ (1 ≤ li ∧ li ≤ 200) ∧ (0 ≤ sv ∧ sv ≤ 1000000)
instance (x y ev bu li sv fa : Int) : Decidable (EmitP x y ev bu li sv fa) := by unfold EmitP; infer_instance
set_option maxHeartbeats 2000000 in
theorem sgoodE (x y ev bu li sv fa : Int) (w : World) : Calls Tryd.prog 29 #[.agg #[.int .i64 x, .int .i64 y, .int .i64 ev, .int .i64 bu, .int .i64 li, .int .i64 sv, .int .i64 fa]] w fun e w' => e = .returned (.bool (decide (EmitP x y ev bu li sv fa))) ∧ Kept w w' := by
  go_enter Tryd.func29, Tryd.ntmps29
  go_wp2_with (go_at_call 31; refine (sIn _ _ _ _).mono ?_; rintro e w1 ⟨rfl, rfl⟩)
  all_goals
    go_ret
    exact ⟨ret_bool (by first | exact (decide_eq_false (fun h => by unfold EmitP at h; omega)).symm | exact (decide_eq_true (by unfold EmitP; omega)).symm | (rw [Bool.eq_iff_iff]; simp only [decide_eq_true_iff]; unfold EmitP; omega) | (rw [Bool.eq_iff_iff]; simp only [Bool.and_eq_true, decide_eq_true_iff]; unfold EmitP; omega)), (But.refl _ _ _).alloc _⟩
set_option maxHeartbeats 2000000 in
theorem igoodE (x y ev bu li sv fa : Int) (w : World) : Calls Tryd.prog 26 #[.agg #[.int .i64 x, .int .i64 y, .int .i64 ev, .int .i64 bu, .int .i64 li, .int .i64 sv, .int .i64 fa]] w fun e w' => e = .returned (.bool (decide (EmitP x y ev bu li sv fa))) ∧ Kept w w' := by
  go_enter Tryd.func26, Tryd.ntmps26
  go_wp2_with (first | (go_at_call 52; refine (ithrow _ _).mono ?_; rintro e w1 ⟨rfl, rfl⟩) | (go_at_call 53; refine (ispan _ _).mono ?_; rintro e w1 ⟨rfl, rfl⟩))
  all_goals
    go_ret
    exact ⟨ret_bool (by first | exact (decide_eq_false (fun h => by unfold EmitP at h; omega)).symm | exact (decide_eq_true (by unfold EmitP; omega)).symm | (rw [Bool.eq_iff_iff]; simp only [decide_eq_true_iff]; unfold EmitP; omega) | (rw [Bool.eq_iff_iff]; simp only [Bool.and_eq_true, decide_eq_true_iff]; unfold EmitP; omega)), (But.refl _ _ _).alloc _⟩

end Go.Proofs.YtpeiblodefaajaaDoor
