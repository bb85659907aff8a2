/-
  What the specification answers of a shape.
-/
import Derived.Test.YtfibikkbhbmfkaaRows
import Derived.Test.YtfibikkbhbmfkaaShape
namespace Go.Proofs.Ytfibikkbhbmfkaa
open Go.ChangeShapes Go.WideShapes Go.ChangeAt Go.RowKit

set_option maxRecDepth 100000
set_option linter.unusedVariables false
theorem ret_boolG {a b : Bool} (h : a = b) : Ending.returned (.bool a) = .returned (.bool b) := by rw [h]
theorem sIn (n lo hi : Int) (w : World) : Calls Try.prog 35 #[.int .i64 n, .int .i64 lo, .int .i64 hi] w fun e w' => e = .returned (.bool (decide (lo ≤ n ∧ n ≤ hi))) ∧ w' = w := by
  go_enter Try.func35, Try.ntmps35
  go_wp2
  all_goals
    go_ret
    exact ⟨ret_boolG (by rw [Bool.eq_iff_iff]; simp <;> omega), rfl⟩

/-- A shape is good: kind, place, breadth, height. -/
def ShapeP (p : ShapeD) : Prop := (-100000 ≤ p.2.1 ∧ p.2.1 ≤ 100000) ∧ (-100000 ≤ p.2.2.1 ∧ p.2.2.1 ≤ 100000) ∧ (1 ≤ p.2.2.2.1 ∧ p.2.2.2.1 ≤ 1000) ∧ (p.1 = 1 ∧ (1 ≤ p.2.2.2.2 ∧ p.2.2.2.2 ≤ 1000) ∨ p.1 = 2 ∧ p.2.2.2.2 = 0)
instance (p : ShapeD) : Decidable (ShapeP p) := inferInstanceAs (Decidable (_ ∧ _))
theorem sgood (k x y a b : Int) (w : World) : Calls Try.prog 10 #[.agg #[.int .i64 k, .int .i64 x, .int .i64 y, .int .i64 a, .int .i64 b]] w fun e w' => e = .returned (.bool (decide (ShapeP (k, x, y, a, b)))) ∧ Kept w w' := by
  rcases (Decidable.em (-100000 ≤ x ∧ x ≤ 100000)).symm with hx | hx
  · have dx : decide (-100000 ≤ x ∧ x ≤ 100000) = false := decide_eq_false hx
    go_enter Try.func10, Try.ntmps10
    go_wp2_with (go_at_call 35; refine (sIn _ _ _ _).mono ?_; rw [dx]; rintro e w' ⟨rfl, rfl⟩)
    go_ret
    exact ⟨ret_boolG (decide_eq_false (fun h => hx h.1)).symm, (But.refl _ _ _).alloc _⟩
  have dx : decide (-100000 ≤ x ∧ x ≤ 100000) = true := decide_eq_true hx
  rcases (Decidable.em (-100000 ≤ y ∧ y ≤ 100000)).symm with hy | hy
  · have dy : decide (-100000 ≤ y ∧ y ≤ 100000) = false := decide_eq_false hy
    go_enter Try.func10, Try.ntmps10
    go_wp2_with (go_at_call 35; refine (sIn _ _ _ _).mono ?_; (first | rw [dx] | rw [dy]); rintro e w' ⟨rfl, rfl⟩)
    go_ret
    exact ⟨ret_boolG (decide_eq_false (fun h => hy h.2.1)).symm, (But.refl _ _ _).alloc _⟩
  have dy : decide (-100000 ≤ y ∧ y ≤ 100000) = true := decide_eq_true hy
  rcases (Decidable.em (1 ≤ a ∧ a ≤ 1000)).symm with ha | ha
  · have da : decide (1 ≤ a ∧ a ≤ 1000) = false := decide_eq_false ha
    go_enter Try.func10, Try.ntmps10
    go_wp2_with (go_at_call 35; refine (sIn _ _ _ _).mono ?_; (first | rw [dx] | rw [dy] | rw [da]); rintro e w' ⟨rfl, rfl⟩)
    go_ret
    exact ⟨ret_boolG (decide_eq_false (fun h => ha h.2.2.1)).symm, (But.refl _ _ _).alloc _⟩
  have da : decide (1 ≤ a ∧ a ≤ 1000) = true := decide_eq_true ha
  have key : decide (ShapeP (k, x, y, a, b)) = (decide (k = 1) && decide (1 ≤ b ∧ b ≤ 1000) || decide (k = 2) && decide (b = 0)) := by
    rw [Bool.eq_iff_iff, decide_eq_true_iff]
    simp only [Bool.or_eq_true, Bool.and_eq_true, decide_eq_true_iff]
    exact ⟨fun h => h.2.2.2, fun h => ⟨hx, hy, ha, h⟩⟩
  rw [key]
  by_cases hk : k = 1
  · subst hk
    by_cases hb : 1 ≤ b ∧ b ≤ 1000
    · have db : decide (1 ≤ b ∧ b ≤ 1000) = true := decide_eq_true hb
      go_enter Try.func10, Try.ntmps10
      go_wp2_with (go_at_call 35; refine (sIn _ _ _ _).mono ?_; (first | rw [dx] | rw [dy] | rw [da] | rw [db]); rintro e w' ⟨rfl, rfl⟩)
      go_ret
      exact ⟨ret_boolG (by simp [hb]), (But.refl _ _ _).alloc _⟩
    · have db : decide (1 ≤ b ∧ b ≤ 1000) = false := decide_eq_false hb
      go_enter Try.func10, Try.ntmps10
      go_wp2_with (go_at_call 35; refine (sIn _ _ _ _).mono ?_; (first | rw [dx] | rw [dy] | rw [da] | rw [db]); rintro e w' ⟨rfl, rfl⟩)
      go_ret
      exact ⟨ret_boolG (by simp [hb]), (But.refl _ _ _).alloc _⟩
  · by_cases hk2 : k = 2
    · subst hk2
      go_enter Try.func10, Try.ntmps10
      go_wp2_with (go_at_call 35; refine (sIn _ _ _ _).mono ?_; (first | rw [dx] | rw [dy] | rw [da]); rintro e w' ⟨rfl, rfl⟩)
      go_ret
      exact ⟨ret_boolG (by rw [Bool.eq_iff_iff]; simp), (But.refl _ _ _).alloc _⟩
    · have e1 : (k == 1) = false := by simpa using hk
      have e2 : (k == 2) = false := by simpa using hk2
      go_enter Try.func10, Try.ntmps10
      go_wp2_with (go_at_call 35; refine (sIn _ _ _ _).mono ?_; (first | rw [dx] | rw [dy] | rw [da]); rintro e w' ⟨rfl, rfl⟩)
      go_ret
      exact ⟨ret_boolG (by simp [hk, hk2]), (But.refl _ _ _).alloc _⟩

end Go.Proofs.Ytfibikkbhbmfkaa
