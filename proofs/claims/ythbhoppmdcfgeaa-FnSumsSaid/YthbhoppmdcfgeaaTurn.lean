/-
  What the functions on turns answer, in the program and in its specification.
-/
import Derived.Test.YthbhoppmdcfgeaaLeaf
namespace Go.Proofs.Ythbhoppmdcfgeaa
open Go.ChangeShapes Go.WideShapes Go.ChangeAt Go.RowKit Ieee

theorem drewN_grown {W w : World} (h : Grown W w) (n : Nat) : Grown W (w.drewN n) := h

/-- What a complex product or its like answers: both parts, up to which NaN. -/
def CAns (o1 o2 : Option Nat) (e : Ending) : Prop := ∃ r i, e = .returned (.complex .f64 r i) ∧ nrm r = o1 ∧ nrm i = o2 ∧ r < 18446744073709551616 ∧ i < 18446744073709551616

theorem timesTold (a b c d : Nat) (w : World) : Calls Try.prog 46 #[.complex .f64 a b, .complex .f64 c d] w fun e w' => CAns (opN .sub (opN .mul (nrm a) (nrm c)) (opN .mul (nrm b) (nrm d))) (opN .add (opN .mul (nrm a) (nrm d)) (opN .mul (nrm b) (nrm c))) e ∧ ∃ n, w' = w.drewN n := by
  go_enter Try.func46, Try.ntmps46
  go_wp2
  go_ret
  refine ⟨⟨_, _, rfl, ?_, ?_, fop_lt _ _ _ _, fop_lt _ _ _ _⟩, ⟨_, rfl⟩⟩
  · simp only [nrm_fop]
  · simp only [nrm_fop]
theorem mirrored (a b : Nat) (w : World) : Calls Try.prog 58 #[.complex .f64 a b] w fun e w' => e = .returned (.complex .f64 a (flip b)) ∧ w' = w := by
  go_enter Try.func58, Try.ntmps58
  go_wp2
  go_ret
  exact ⟨rfl, rfl⟩
theorem complexOf (a b : Nat) (w : World) : Calls Try.prog 47 #[.agg #[.float .f64 a, .float .f64 b]] w fun e w' => e = .returned (.complex .f64 a b) ∧ w' = w.alloc (.cells #[.float .f64 a, .float .f64 b] 29) := by
  go_enter Try.func47, Try.ntmps47
  go_wp2
  go_ret
  exact ⟨rfl, rfl⟩
theorem goodTurn (a b : Nat) (ha : a < 18446744073709551616) (hb : b < 18446744073709551616) (w : World) : Calls Try.prog 44 #[.agg #[.float .f64 a, .float .f64 b]] w fun e w' => e = .returned (.bool (good a && good b)) ∧ w' = w.alloc (.cells #[.float .f64 a, .float .f64 b] 29) := by
  cases h1 : good a <;> cases h2 : good b
  all_goals
    go_enter Try.func44, Try.ntmps44
    go_wp2_with (go_at_call 22; refine (implGood _ (by assumption) _).mono ?_; (first | rw [h1] | rw [h2]); rintro e w' ⟨rfl, rfl⟩)
    go_ret
    exact ⟨rfl, rfl⟩
theorem l2Good (a b : Nat) (ha : a < 18446744073709551616) (hb : b < 18446744073709551616) (w : World) : Calls Try.prog 56 #[.agg #[.float .f64 a, .float .f64 b]] w fun e w' => e = .returned (.bool (good a && good b)) ∧ w' = w.alloc (.cells #[.float .f64 a, .float .f64 b] 29) := by
  cases h1 : good a <;> cases h2 : good b
  all_goals
    go_enter Try.func56, Try.ntmps56
    go_wp2_with (go_at_call 21; refine (specGood _ (by assumption) _).mono ?_; (first | rw [h1] | rw [h2]); rintro e w' ⟨rfl, rfl⟩)
    go_ret
    exact ⟨rfl, rfl⟩

/-- The turn of two parts that came out, and whether it is one. -/
def turnM (re im : Nat) : Nat × Nat × Bool := if fin re && fin im then (plain re, plain im, true) else (0, 0, false)
abbrev turnV (t : Nat × Nat × Bool) : Value := .tuple #[.agg #[.float .f64 t.1, .float .f64 t.2.1], .bool t.2.2]

theorem turnOf (a b : Nat) (ha : a < 18446744073709551616) (hb : b < 18446744073709551616) (w : World) : Calls Try.prog 45 #[.complex .f64 a b] w fun e w' => e = .returned (turnV (turnM a b)) ∧ w' = w.alloc (.cells #[.float .f64 (turnM a b).1, .float .f64 (turnM a b).2.1] 29) := by
  cases h1 : fin a <;> cases h2 : fin b
  all_goals
    go_enter Try.func45, Try.ntmps45
    go_wp2_with (first | (go_at_call 40; refine (isFinite _ (by assumption) _).mono ?_; (first | rw [h1] | rw [h2]); rintro e w' ⟨rfl, rfl⟩) | (go_at_call 55; refine (plainNought _ _).mono ?_; rintro e w' ⟨rfl, rfl⟩))
    go_returns
    exact ⟨by simp [turnV, turnM, h1, h2], by simp [turnM, h1, h2]⟩
theorem l2Turn (a b : Nat) (ha : a < 18446744073709551616) (hb : b < 18446744073709551616) (w : World) : Calls Try.prog 57 #[.float .f64 a, .float .f64 b] w fun e w' => e = .returned (turnV (turnM a b)) ∧ w' = w.alloc (.cells #[.float .f64 (turnM a b).1, .float .f64 (turnM a b).2.1] 29) := by
  cases h1 : fin a <;> cases h2 : fin b
  all_goals
    go_enter Try.func57, Try.ntmps57
    go_wp2_with (first | (go_at_call 41; refine (l2Finite _ (by assumption) _).mono ?_; (first | rw [h1] | rw [h2]); rintro e w' ⟨rfl, rfl⟩) | (go_at_call 42; refine (l2Plain _ _).mono ?_; rintro e w' ⟨rfl, rfl⟩))
    go_returns
    exact ⟨by simp [turnV, turnM, h1, h2], by simp [turnM, h1, h2]⟩
end Go.Proofs.Ythbhoppmdcfgeaa
