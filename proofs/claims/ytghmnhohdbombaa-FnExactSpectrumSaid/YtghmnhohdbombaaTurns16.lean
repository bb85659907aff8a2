/-
  The eight turns: both sides.
-/
import Derived.Test.YtghmnhohdbombaaCplx16
namespace Go.Proofs.Ytghmnhohdbombaa
open Go.ChangeShapes Go.WideShapes Go.ChangeAt Go.RowKit Ieee

set_option maxRecDepth 100000
set_option linter.unusedVariables false
theorem wT_cases (j : Nat) : ∃ r, j % 8 = r ∧ (r = 0 ∨ r = 1 ∨ r = 2 ∨ r = 3 ∨ r = 4 ∨ r = 5 ∨ r = 6 ∨ r = 7) := ⟨_, rfl, by omega⟩
set_option maxHeartbeats 8000000 in
theorem sW (j : Nat) (hj : j ≤ 1000) (w : World) : Calls Try.prog 53 #[.int .i64 (j : Int)] w fun e w' => e = .returned (.agg #[.float .f64 (wT j).1, .float .f64 (wT j).2]) ∧ Kept w w' := by
  obtain ⟨r, hr, hc⟩ := wT_cases j
  have hw : wT j = wL.getD r (0, 0) := by unfold wT; rw [hr]
  rw [hw]
  clear hw
  have h1 : (j : Int) % 8 = (r : Int) := by omega
  rcases hc with rfl | rfl | rfl | rfl | rfl | rfl | rfl | rfl
  all_goals
    go_enter Try.func53, Try.ntmps53
    go_wp2
    refine bodyPost_ret (v := _) (by simp [results, Try.results53, go_sem]; rfl) rfl ?_
    exact ⟨rfl, by (repeat (first | with_reducible exact But.refl _ _ _ | with_reducible apply But.drewN | with_reducible apply But.drew | with_reducible apply But.alloc))⟩

set_option maxHeartbeats 4000000 in
theorem iturns (w : World) : Calls Try.prog 78 #[] w fun e w' => e = .returned (.agg #[.complex .f64 4607182418800017408 0, .complex .f64 4604544271217802189 13827916308072577997, .complex .f64 0 13830554455654793216, .complex .f64 13827916308072577997 13827916308072577997, .complex .f64 13830554455654793216 0, .complex .f64 13827916308072577997 4604544271217802189, .complex .f64 0 4607182418800017408, .complex .f64 4604544271217802189 4604544271217802189]) ∧ Kept w w' := by
  go_enter Try.func78, Try.ntmps78
  go_wp2
  refine bodyPost_ret (v := .agg #[.complex .f64 4607182418800017408 0, .complex .f64 4604544271217802189 13827916308072577997, .complex .f64 0 13830554455654793216, .complex .f64 13827916308072577997 13827916308072577997, .complex .f64 13830554455654793216 0, .complex .f64 13827916308072577997 4604544271217802189, .complex .f64 0 4607182418800017408, .complex .f64 4604544271217802189 4604544271217802189]) (by simp [results, Try.results78, go_sem]) rfl ?_
  exact ⟨rfl, by (repeat (first | with_reducible exact But.refl _ _ _ | with_reducible apply But.drewN | with_reducible apply But.drew | with_reducible apply But.alloc))⟩

end Go.Proofs.Ytghmnhohdbombaa
