/-
  What the functions on turns answer, in the program and in its specification.
-/
import Derived.Test.YtghmnhohdbombaaLeaf
namespace Go.Proofs.Ytghmnhohdbombaa
open Go.ChangeShapes Go.WideShapes Go.ChangeAt Go.RowKit Ieee

theorem drewN_grown {W w : World} (h : Grown W w) (n : Nat) : Grown W (w.drewN n) := h

/-- What a complex product or its like answers: both parts, up to which NaN. -/
def CAns (o1 o2 : Option Nat) (e : Ending) : Prop := ∃ r i, e = .returned (.complex .f64 r i) ∧ nrm r = o1 ∧ nrm i = o2 ∧ r < 18446744073709551616 ∧ i < 18446744073709551616

theorem goodTurn (a b : Nat) (ha : a < 18446744073709551616) (hb : b < 18446744073709551616) (w : World) : Calls Try.prog 59 #[.agg #[.float .f64 a, .float .f64 b]] w fun e w' => e = .returned (.bool (good a && good b)) ∧ w' = w.alloc (.cells #[.float .f64 a, .float .f64 b] 55) := by
  cases h1 : good a <;> cases h2 : good b
  all_goals
    go_enter Try.func59, Try.ntmps59
    go_wp2_with (go_at_call 52; refine (implGood _ (by assumption) _).mono ?_; (first | rw [h1] | rw [h2]); rintro e w' ⟨rfl, rfl⟩)
    go_ret
    exact ⟨rfl, rfl⟩
theorem l2Good (a b : Nat) (ha : a < 18446744073709551616) (hb : b < 18446744073709551616) (w : World) : Calls Try.prog 58 #[.agg #[.float .f64 a, .float .f64 b]] w fun e w' => e = .returned (.bool (good a && good b)) ∧ w' = w.alloc (.cells #[.float .f64 a, .float .f64 b] 55) := by
  cases h1 : good a <;> cases h2 : good b
  all_goals
    go_enter Try.func58, Try.ntmps58
    go_wp2_with (go_at_call 48; refine (specGood _ (by assumption) _).mono ?_; (first | rw [h1] | rw [h2]); rintro e w' ⟨rfl, rfl⟩)
    go_ret
    exact ⟨rfl, rfl⟩

/-- The turn of two parts that came out, and whether it is one. -/
def turnM (re im : Nat) : Nat × Nat × Bool := if fin re && fin im then (plain re, plain im, true) else (0, 0, false)
abbrev turnV (t : Nat × Nat × Bool) : Value := .tuple #[.agg #[.float .f64 t.1, .float .f64 t.2.1], .bool t.2.2]

theorem turnOf (a b : Nat) (ha : a < 18446744073709551616) (hb : b < 18446744073709551616) (w : World) : Calls Try.prog 55 #[.complex .f64 a b] w fun e w' => e = .returned (turnV (turnM a b)) ∧ w' = w.alloc (.cells #[.float .f64 (turnM a b).1, .float .f64 (turnM a b).2.1] 55) := by
  cases h1 : fin a <;> cases h2 : fin b
  all_goals
    go_enter Try.func55, Try.ntmps55
    go_wp2_with (first | (go_at_call 60; refine (isFinite _ (by assumption) _).mono ?_; (first | rw [h1] | rw [h2]); rintro e w' ⟨rfl, rfl⟩) | (go_at_call 73; refine (plainNought _ _).mono ?_; rintro e w' ⟨rfl, rfl⟩))
    go_returns
    exact ⟨by simp [turnV, turnM, h1, h2], by simp [turnM, h1, h2]⟩
theorem l2Turn (a b : Nat) (ha : a < 18446744073709551616) (hb : b < 18446744073709551616) (w : World) : Calls Try.prog 54 #[.float .f64 a, .float .f64 b] w fun e w' => e = .returned (turnV (turnM a b)) ∧ w' = w.alloc (.cells #[.float .f64 (turnM a b).1, .float .f64 (turnM a b).2.1] 55) := by
  cases h1 : fin a <;> cases h2 : fin b
  all_goals
    go_enter Try.func54, Try.ntmps54
    go_wp2_with (first | (go_at_call 50; refine (l2Finite _ (by assumption) _).mono ?_; (first | rw [h1] | rw [h2]); rintro e w' ⟨rfl, rfl⟩) | (go_at_call 51; refine (l2Plain _ _).mono ?_; rintro e w' ⟨rfl, rfl⟩))
    go_returns
    exact ⟨by simp [turnV, turnM, h1, h2], by simp [turnM, h1, h2]⟩
end Go.Proofs.Ytghmnhohdbombaa
