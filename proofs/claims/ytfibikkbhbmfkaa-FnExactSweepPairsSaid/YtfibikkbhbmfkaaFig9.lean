/-
  Figures: what the program makes of a shape.
-/
import Derived.Test.YtfibikkbhbmfkaaSpec9
import Derived.Handy
namespace Go.Proofs.Ytfibikkbhbmfkaa
open Go.ChangeShapes Go.WideShapes Go.ChangeAt Go.RowKit

set_option maxRecDepth 100000
set_option linter.unusedVariables false
set_option linter.unusedSimpArgs false
/-- A good shape as a figure: the edges of a box, or a disk. -/
def figV (p : ShapeD) : Value := if p.1 = 1 then .iface 60 (.agg #[.int .i64 p.2.1, .int .i64 p.2.2.1, .int .i64 (p.2.1 + p.2.2.2.1), .int .i64 (p.2.2.1 + p.2.2.2.2)]) else .iface 98 (.agg #[.int .i64 p.2.1, .int .i64 p.2.2.1, .int .i64 p.2.2.2.1])
theorem iSpan (x : Int) (w : World) : Calls Try.prog 59 #[.int .i64 x] w fun e w' => e = .returned (.bool (decide (-100000 ≤ x ∧ x ≤ 100000))) ∧ w' = w := by
  go_enter Try.func59, Try.ntmps59
  go_wp2
  all_goals
    go_ret
    exact ⟨ret_boolG (by rw [Bool.eq_iff_iff]; simp <;> omega), rfl⟩
theorem iSize (x : Int) (w : World) : Calls Try.prog 60 #[.int .i64 x] w fun e w' => e = .returned (.bool (decide (1 ≤ x ∧ x ≤ 1000))) ∧ w' = w := by
  go_enter Try.func60, Try.ntmps60
  go_wp2
  all_goals
    go_ret
    exact ⟨ret_boolG (by rw [Bool.eq_iff_iff]; simp <;> omega), rfl⟩
def FigR (p : ShapeD) : Value := .tuple #[if ShapeP p then figV p else .nilIface, .bool (decide (ShapeP p))]
theorem figR_no {p : ShapeD} (h : ¬ ShapeP p) : FigR p = .tuple #[.nilIface, .bool false] := by simp [FigR, h]
theorem figR_yes {p : ShapeD} (h : ShapeP p) : FigR p = .tuple #[figV p, .bool true] := by simp [FigR, h]
theorem figureOf (k x y a b : Int) (w : World) : Calls Try.prog 36 #[.agg #[.int .i64 k, .int .i64 x, .int .i64 y, .int .i64 a, .int .i64 b]] w fun e w' => e = .returned (FigR (k, x, y, a, b)) ∧ Kept w w' := by
  rcases (Decidable.em (-100000 ≤ x ∧ x ≤ 100000)).symm with hx | hx
  · have dx : decide (-100000 ≤ x ∧ x ≤ 100000) = false := decide_eq_false hx
    have hn : ¬ ShapeP (k, x, y, a, b) := fun h => hx h.1
    rw [figR_no hn]
    go_enter Try.func36, Try.ntmps36
    repeat (first | (go_at_call 59; refine (iSpan _ _).mono ?_; (first | rw [dx]); rintro e w' ⟨rfl, rfl⟩; dsimp only) | (go_at_call 60; refine (iSize _ _).mono ?_; (first | rw [dx]); rintro e w' ⟨rfl, rfl⟩; dsimp only) | go_values | go_skip | go_guarded | go_step | go_upon)
    go_returns
    exact ⟨by simp [figV], by (repeat (first | with_reducible exact But.refl _ _ _ | with_reducible apply But.drewN | with_reducible apply But.drew | with_reducible apply But.alloc))⟩
  have dx : decide (-100000 ≤ x ∧ x ≤ 100000) = true := decide_eq_true hx
  rcases (Decidable.em (-100000 ≤ y ∧ y ≤ 100000)).symm with hy | hy
  · have dy : decide (-100000 ≤ y ∧ y ≤ 100000) = false := decide_eq_false hy
    have hn : ¬ ShapeP (k, x, y, a, b) := fun h => hy h.2.1
    rw [figR_no hn]
    go_enter Try.func36, Try.ntmps36
    repeat (first | (go_at_call 59; refine (iSpan _ _).mono ?_; (first | rw [dx] | rw [dy]); rintro e w' ⟨rfl, rfl⟩; dsimp only) | (go_at_call 60; refine (iSize _ _).mono ?_; (first | rw [dx] | rw [dy]); rintro e w' ⟨rfl, rfl⟩; dsimp only) | go_values | go_skip | go_guarded | go_step | go_upon)
    go_returns
    exact ⟨by simp [figV], by (repeat (first | with_reducible exact But.refl _ _ _ | with_reducible apply But.drewN | with_reducible apply But.drew | with_reducible apply But.alloc))⟩
  have dy : decide (-100000 ≤ y ∧ y ≤ 100000) = true := decide_eq_true hy
  rcases (Decidable.em (1 ≤ a ∧ a ≤ 1000)).symm with ha | ha
  · have da : decide (1 ≤ a ∧ a ≤ 1000) = false := decide_eq_false ha
    have hn : ¬ ShapeP (k, x, y, a, b) := fun h => ha h.2.2.1
    rw [figR_no hn]
    go_enter Try.func36, Try.ntmps36
    repeat (first | (go_at_call 59; refine (iSpan _ _).mono ?_; (first | rw [dx] | rw [dy] | rw [da]); rintro e w' ⟨rfl, rfl⟩; dsimp only) | (go_at_call 60; refine (iSize _ _).mono ?_; (first | rw [dx] | rw [dy] | rw [da]); rintro e w' ⟨rfl, rfl⟩; dsimp only) | go_values | go_skip | go_guarded | go_step | go_upon)
    go_returns
    exact ⟨by simp [figV], by (repeat (first | with_reducible exact But.refl _ _ _ | with_reducible apply But.drewN | with_reducible apply But.drew | with_reducible apply But.alloc))⟩
  have da : decide (1 ≤ a ∧ a ≤ 1000) = true := decide_eq_true ha
  by_cases hk : k = 1
  · subst hk
    by_cases hb : 1 ≤ b ∧ b ≤ 1000
    · have db : decide (1 ≤ b ∧ b ≤ 1000) = true := decide_eq_true hb
      have hn : ShapeP (1, x, y, a, b) := ⟨hx, hy, ha, .inl ⟨rfl, hb⟩⟩
      rw [figR_yes hn]
      have e1 := IntWalk.i64_in (n := x + a) (by omega)
      have e2 := IntWalk.i64_in (n := y + b) (by omega)
      go_enter Try.func36, Try.ntmps36
      repeat (first | (go_at_call 59; refine (iSpan _ _).mono ?_; (first | rw [dx] | rw [dy] | rw [da] | rw [db]); rintro e w' ⟨rfl, rfl⟩; dsimp only) | (go_at_call 60; refine (iSize _ _).mono ?_; (first | rw [dx] | rw [dy] | rw [da] | rw [db]); rintro e w' ⟨rfl, rfl⟩; dsimp only) | go_values | go_skip | go_guarded | go_step | go_upon)
      go_returns
      exact ⟨by simp [figV], by (repeat (first | with_reducible exact But.refl _ _ _ | with_reducible apply But.drewN | with_reducible apply But.drew | with_reducible apply But.alloc))⟩
    · have db : decide (1 ≤ b ∧ b ≤ 1000) = false := decide_eq_false hb
      have hn : ¬ ShapeP (1, x, y, a, b) := fun h => by rcases h.2.2.2 with h | h; exact hb h.2; exact absurd h.1 (by simp)
      rw [figR_no hn]
      go_enter Try.func36, Try.ntmps36
      repeat (first | (go_at_call 59; refine (iSpan _ _).mono ?_; (first | rw [dx] | rw [dy] | rw [da] | rw [db]); rintro e w' ⟨rfl, rfl⟩; dsimp only) | (go_at_call 60; refine (iSize _ _).mono ?_; (first | rw [dx] | rw [dy] | rw [da] | rw [db]); rintro e w' ⟨rfl, rfl⟩; dsimp only) | go_values | go_skip | go_guarded | go_step | go_upon)
      go_returns
      exact ⟨by simp [figV], by (repeat (first | with_reducible exact But.refl _ _ _ | with_reducible apply But.drewN | with_reducible apply But.drew | with_reducible apply But.alloc))⟩
  · have e1 : (k == 1) = false := by simpa using hk
    by_cases hk2 : k = 2
    · subst hk2
      by_cases hb : b = 0
      · subst hb
        have hn : ShapeP (2, x, y, a, 0) := ⟨hx, hy, ha, .inr ⟨rfl, rfl⟩⟩
        rw [figR_yes hn]
        go_enter Try.func36, Try.ntmps36
        repeat (first | (go_at_call 59; refine (iSpan _ _).mono ?_; (first | rw [dx] | rw [dy] | rw [da]); rintro e w' ⟨rfl, rfl⟩; dsimp only) | (go_at_call 60; refine (iSize _ _).mono ?_; (first | rw [dx] | rw [dy] | rw [da]); rintro e w' ⟨rfl, rfl⟩; dsimp only) | go_values | go_skip | go_guarded | go_step | go_upon)
        go_returns
        exact ⟨by simp [figV], by (repeat (first | with_reducible exact But.refl _ _ _ | with_reducible apply But.drewN | with_reducible apply But.drew | with_reducible apply But.alloc))⟩
      · have e3 : (b == 0) = false := by simpa using hb
        have hn : ¬ ShapeP (2, x, y, a, b) := fun h => by rcases h.2.2.2 with h | h; exact absurd h.1 (by simp); exact hb h.2
        rw [figR_no hn]
        go_enter Try.func36, Try.ntmps36
        repeat (first | (go_at_call 59; refine (iSpan _ _).mono ?_; (first | rw [dx] | rw [dy] | rw [da]); rintro e w' ⟨rfl, rfl⟩; dsimp only) | (go_at_call 60; refine (iSize _ _).mono ?_; (first | rw [dx] | rw [dy] | rw [da]); rintro e w' ⟨rfl, rfl⟩; dsimp only) | go_values | go_skip | go_guarded | go_step | go_upon)
        go_returns
        exact ⟨by simp [figV], by (repeat (first | with_reducible exact But.refl _ _ _ | with_reducible apply But.drewN | with_reducible apply But.drew | with_reducible apply But.alloc))⟩
    · have e2 : (k == 2) = false := by simpa using hk2
      have hn : ¬ ShapeP (k, x, y, a, b) := fun h => by rcases h.2.2.2 with h | h; exact hk h.1; exact hk2 h.1
      rw [figR_no hn]
      go_enter Try.func36, Try.ntmps36
      repeat (first | (go_at_call 59; refine (iSpan _ _).mono ?_; (first | rw [dx] | rw [dy] | rw [da]); rintro e w' ⟨rfl, rfl⟩; dsimp only) | (go_at_call 60; refine (iSize _ _).mono ?_; (first | rw [dx] | rw [dy] | rw [da]); rintro e w' ⟨rfl, rfl⟩; dsimp only) | go_values | go_skip | go_guarded | go_step | go_upon)
      go_returns
      exact ⟨by simp [figV], by (repeat (first | with_reducible exact But.refl _ _ _ | with_reducible apply But.drewN | with_reducible apply But.drew | with_reducible apply But.alloc))⟩

end Go.Proofs.Ytfibikkbhbmfkaa
