/-
  What the specification answers of a body.
-/
import Derived.Test.YthpjjpgahmkpdaaRows
import Derived.Test.YthpjjpgahmkpdaaPush10
namespace Go.Proofs.Ythpjjpgahmkpdaa
open Go.ChangeShapes Go.WideShapes Go.ChangeAt Go.RowKit

set_option maxRecDepth 100000
set_option linter.unusedVariables false
theorem ret_boolG {a b : Bool} (h : a = b) : Ending.returned (.bool a) = .returned (.bool b) := by rw [h]
theorem sIn (n lo hi : Int) (w : World) : Calls Try.prog 77 #[.int .i64 n, .int .i64 lo, .int .i64 hi] w fun e w' => e = .returned (.bool (decide (lo ≤ n ∧ n ≤ hi))) ∧ w' = w := by
  go_enter Try.func77, Try.ntmps77
  go_wp2
  all_goals
    go_ret
    exact ⟨ret_boolG (by rw [Bool.eq_iff_iff]; simp <;> omega), rfl⟩
theorem sbounce (n : Int) (w : World) : Calls Try.prog 73 #[.int .i64 n] w fun e w' => e = .returned (.bool (decide (0 ≤ n ∧ n ≤ 100))) ∧ w' = w := by
  go_enter Try.func73, Try.ntmps73
  go_wp2_with (go_at_call 77; refine (sIn _ _ _ _).mono ?_; rintro e w' ⟨rfl, rfl⟩; dsimp only)
  go_ret
  exact ⟨rfl, rfl⟩
theorem sbody (x p m r : Int) (w : World) : Calls Try.prog 71 #[.agg #[.int .i64 x, .int .i64 p, .int .i64 m, .int .i64 r]] w fun e w' => e = .returned (.bool (decide (BodyP (x, p, m, r)))) ∧ Kept w w' := by
  rcases (Decidable.em (-1000000000 ≤ x ∧ x ≤ 1000000000)).symm with hdx | hdx
  · have dx : decide (-1000000000 ≤ x ∧ x ≤ 1000000000) = false := decide_eq_false hdx
    go_enter Try.func71, Try.ntmps71
    go_wp2_with (go_at_call 77; refine (sIn _ _ _ _).mono ?_; (first | rw [dx]); rintro e w' ⟨rfl, rfl⟩)
    go_ret
    exact ⟨ret_boolG (decide_eq_false (fun h => hdx h.1)).symm, (But.refl _ _ _).alloc _⟩
  have dx : decide (-1000000000 ≤ x ∧ x ≤ 1000000000) = true := decide_eq_true hdx
  rcases (Decidable.em (-1000000 ≤ p ∧ p ≤ 1000000)).symm with hdp | hdp
  · have dp : decide (-1000000 ≤ p ∧ p ≤ 1000000) = false := decide_eq_false hdp
    go_enter Try.func71, Try.ntmps71
    go_wp2_with (go_at_call 77; refine (sIn _ _ _ _).mono ?_; (first | rw [dx] | rw [dp]); rintro e w' ⟨rfl, rfl⟩)
    go_ret
    exact ⟨ret_boolG (decide_eq_false (fun h => hdp h.2.1)).symm, (But.refl _ _ _).alloc _⟩
  have dp : decide (-1000000 ≤ p ∧ p ≤ 1000000) = true := decide_eq_true hdp
  rcases (Decidable.em (0 ≤ m ∧ m ≤ 12)).symm with hdm | hdm
  · have dm : decide (0 ≤ m ∧ m ≤ 12) = false := decide_eq_false hdm
    go_enter Try.func71, Try.ntmps71
    go_wp2_with (go_at_call 77; refine (sIn _ _ _ _).mono ?_; (first | rw [dx] | rw [dp] | rw [dm]); rintro e w' ⟨rfl, rfl⟩)
    go_ret
    exact ⟨ret_boolG (decide_eq_false (fun h => hdm h.2.2.1)).symm, (But.refl _ _ _).alloc _⟩
  have dm : decide (0 ≤ m ∧ m ≤ 12) = true := decide_eq_true hdm
  by_cases hm : 0 < m
  · have d4 : decide (0 < m) = true := decide_eq_true hm
    have key : decide (BodyP (x, p, m, r)) = decide (1 ≤ r ∧ r ≤ 1000) := by
      rw [Bool.eq_iff_iff, decide_eq_true_iff, decide_eq_true_iff]
      exact ⟨fun h => h.2.2.2.2, fun h => ⟨hdx, hdp, hdm, Or.inl hm, h⟩⟩
    rw [key]
    cases dr : decide (1 ≤ r ∧ r ≤ 1000)
    all_goals
      go_enter Try.func71, Try.ntmps71
      go_wp2_with (go_at_call 77; refine (sIn _ _ _ _).mono ?_; (first | rw [dx] | rw [dp] | rw [dm] | rw [dr]); rintro e w' ⟨rfl, rfl⟩)
      go_ret
      exact ⟨rfl, (But.refl _ _ _).alloc _⟩
  · have d4 : decide (0 < m) = false := decide_eq_false hm
    by_cases hp : p = 0
    · subst hp
      have key : decide (BodyP (x, 0, m, r)) = decide (1 ≤ r ∧ r ≤ 1000) := by
        rw [Bool.eq_iff_iff, decide_eq_true_iff, decide_eq_true_iff]
        exact ⟨fun h => h.2.2.2.2, fun h => ⟨hdx, hdp, hdm, Or.inr rfl, h⟩⟩
      rw [key]
      cases dr : decide (1 ≤ r ∧ r ≤ 1000)
      all_goals
        go_enter Try.func71, Try.ntmps71
        go_wp2_with (go_at_call 77; refine (sIn _ _ _ _).mono ?_; (first | rw [dx] | rw [dp] | rw [dm] | rw [dr]); rintro e w' ⟨rfl, rfl⟩)
        go_ret
        exact ⟨rfl, (But.refl _ _ _).alloc _⟩
    · have d5 : (p == 0) = false := by simpa using hp
      go_enter Try.func71, Try.ntmps71
      go_wp2_with (go_at_call 77; refine (sIn _ _ _ _).mono ?_; (first | rw [dx] | rw [dp] | rw [dm]); rintro e w' ⟨rfl, rfl⟩)
      go_ret
      exact ⟨ret_boolG (decide_eq_false (fun h => by rcases h.2.2.2.1 with h | h; (dsimp only at h; omega); exact hp h)).symm, (But.refl _ _ _).alloc _⟩

end Go.Proofs.Ythpjjpgahmkpdaa
