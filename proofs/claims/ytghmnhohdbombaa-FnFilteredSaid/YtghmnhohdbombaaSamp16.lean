/-
  One sample through a filter: the program.
-/
import Derived.Test.YtghmnhohdbombaaFil16
namespace Go.Proofs.Ytghmnhohdbombaa
open Go.ChangeShapes Go.WideShapes Go.ChangeAt Go.RowKit Ieee
set_option maxRecDepth 100000

set_option maxHeartbeats 4000000 in
theorem isample (f0 f1 f2 f3 f4 s1 s2 x : Nat) (w : World) :
    Calls Try.prog 47 #[.agg #[.float .f64 f0, .float .f64 f1, .float .f64 f2, .float .f64 f3, .float .f64 f4], .agg #[.float .f64 s1, .float .f64 s2], .float .f64 x] w fun e w' => ∃ y a b, e = .returned (.tuple #[.float .f64 y, .agg #[.float .f64 a, .float .f64 (plain b)]]) ∧ nrm y = yO (f0, f1, f2, f3, f4) s1 x ∧ nrm a = aO (f0, f1, f2, f3, f4) s1 s2 x ∧ nrm b = bO (f0, f1, f2, f3, f4) s1 x ∧ y < 18446744073709551616 ∧ a < 18446744073709551616 ∧ b < 18446744073709551616 ∧ Kept w w' := by
  go_enter Try.func47, Try.ntmps47
  go_wp2_with (go_at_call 73; refine (plainNought _ _).mono ?_; rintro e w' ⟨rfl, rfl⟩)
  go_returns
  refine ⟨_, _, _, rfl, ?_, ?_, ?_, fop_lt _ _ _ _, fop_lt _ _ _ _, fop_lt _ _ _ _, by (repeat (first | with_reducible exact But.refl _ _ _ | with_reducible apply But.drewN | with_reducible apply But.drew | with_reducible apply But.alloc | (with_reducible refine But.setNew ?_ (by simp; try omega) _)))⟩
  · simp only [nrm_fop]; rfl
  · simp only [nrm_fop]; rfl
  · simp only [nrm_fop]; rfl

end Go.Proofs.Ytghmnhohdbombaa
