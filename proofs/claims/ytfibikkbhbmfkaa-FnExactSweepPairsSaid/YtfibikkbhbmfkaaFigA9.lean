/-
  Whether a shape is good, by its figure.
-/
import Derived.Test.YtfibikkbhbmfkaaFig9
import Derived.Test.YtfibikkbhbmfkaaTouchA9
import Derived.BigQuiet
namespace Go.Proofs.Ytfibikkbhbmfkaa
open Go.ChangeShapes Go.WideShapes Go.ChangeAt Go.RowKit

set_option maxRecDepth 100000
set_option linter.unusedVariables false
set_option linter.unusedSimpArgs false

theorem igood (k x y a b : Int) (w : World) : Calls Try.prog 12 #[.agg #[.int .i64 k, .int .i64 x, .int .i64 y, .int .i64 a, .int .i64 b]] w fun e w' => e = .returned (.bool (decide (ShapeP (k, x, y, a, b)))) ∧ Kept w w' := by
  by_cases h : ShapeP (k, x, y, a, b)
  · have h1 := figR_yes h
    generalize figV (k, x, y, a, b) = F at h1
    go_enter Try.func12, Try.ntmps12
    repeat (first | (go_at_call 36; refine (figureOf _ _ _ _ _ _).mono ?_; rw [h1]; rintro e w1 ⟨rfl, k1⟩; have hck1 := Kept.cell_eq k1; have hfk1 := Kept.frozen_eq k1; have hzk1 := k1.size; (try simp at hzk1); have nk1 : w.heap.size < w1.heap.size := (by omega); have Kk1 : Kept w w1 := (But.trans (by (repeat (first | with_reducible exact But.refl _ _ _ | with_reducible apply But.drewN | with_reducible apply But.drew | with_reducible apply But.alloc))) k1); clear k1; dsimp only) | go_values | go_skip | go_guarded | go_step | go_upon)
    go_ret
    exact ⟨by simp [h], by (repeat (first | with_reducible exact Kk1 | with_reducible apply But.drewN | with_reducible apply But.drew | with_reducible apply But.alloc))⟩
  · have h1 := figR_no h
    go_enter Try.func12, Try.ntmps12
    repeat (first | (go_at_call 36; refine (figureOf _ _ _ _ _ _).mono ?_; rw [h1]; rintro e w1 ⟨rfl, k1⟩; have hck1 := Kept.cell_eq k1; have hfk1 := Kept.frozen_eq k1; have hzk1 := k1.size; (try simp at hzk1); have nk1 : w.heap.size < w1.heap.size := (by omega); have Kk1 : Kept w w1 := (But.trans (by (repeat (first | with_reducible exact But.refl _ _ _ | with_reducible apply But.drewN | with_reducible apply But.drew | with_reducible apply But.alloc))) k1); clear k1; dsimp only) | go_values | go_skip | go_guarded | go_step | go_upon)
    go_ret
    exact ⟨by simp [h], by (repeat (first | with_reducible exact Kk1 | with_reducible apply But.drewN | with_reducible apply But.drew | with_reducible apply But.alloc))⟩

theorem boxBounds (q0 q1 q2 q3 : Int) (w : World) : Calls Try.prog 133 #[.agg #[.int .i64 q0, .int .i64 q1, .int .i64 q2, .int .i64 q3]] w fun e w' => e = .returned (.agg #[.int .i64 q0, .int .i64 q1, .int .i64 q2, .int .i64 q3]) ∧ Kept w w' := by
  go_enter Try.func133, Try.ntmps133
  repeat (first | go_values | go_skip | go_guarded | go_step | go_upon)
  go_returns
  exact ⟨rfl, by (repeat (first | with_reducible exact But.refl _ _ _ | with_reducible apply But.drewN | with_reducible apply But.drew | with_reducible apply But.alloc))⟩
theorem diskBounds (x y r : Int) (w : World) (hx : -100000 ≤ x ∧ x ≤ 100000) (hy : -100000 ≤ y ∧ y ≤ 100000) (hr : 1 ≤ r ∧ r ≤ 1000) : Calls Try.prog 135 #[.agg #[.int .i64 x, .int .i64 y, .int .i64 r]] w fun e w' => e = .returned (.agg #[.int .i64 (x - r), .int .i64 (y - r), .int .i64 (x + r), .int .i64 (y + r)]) ∧ Kept w w' := by
  have e1 := IntWalk.i64_in (n := x - r) (by omega)
  have e2 := IntWalk.i64_in (n := y - r) (by omega)
  have e3 := IntWalk.i64_in (n := x + r) (by omega)
  have e4 := IntWalk.i64_in (n := y + r) (by omega)
  go_enter Try.func135, Try.ntmps135
  repeat (first | go_values | go_skip | go_guarded | go_step | go_upon)
  go_returns
  exact ⟨rfl, by (repeat (first | with_reducible exact But.refl _ _ _ | with_reducible apply But.drewN | with_reducible apply But.drew | with_reducible apply But.alloc))⟩
theorem boxHas (q0 q1 q2 q3 x y : Int) (w : World) : Calls Try.prog 38 #[.agg #[.int .i64 q0, .int .i64 q1, .int .i64 q2, .int .i64 q3], .int .i64 x, .int .i64 y] w fun e w' => e = .returned (.bool (decide (q0 ≤ x ∧ x ≤ q2 ∧ q1 ≤ y ∧ y ≤ q3))) ∧ Kept w w' := by
  cases z1 : decide (q0 ≤ x) <;> cases z2 : decide (x ≤ q2) <;> cases z3 : decide (q1 ≤ y)
  all_goals
    go_enter Try.func38, Try.ntmps38
    repeat (first | go_values | go_skip | go_guarded | go_step | go_upon)
    go_ret
    exact ⟨ret_boolG (by rw [Bool.eq_iff_iff]; simp at z1 z2 z3 ⊢ <;> omega), by (repeat (first | with_reducible exact But.refl _ _ _ | with_reducible apply But.drewN | with_reducible apply But.drew | with_reducible apply But.alloc))⟩
theorem boxMeets (q0 q1 q2 q3 t0 t1 t2 t3 : Int) (w : World) : Calls Try.prog 62 #[.agg #[.int .i64 q0, .int .i64 q1, .int .i64 q2, .int .i64 q3], .agg #[.int .i64 t0, .int .i64 t1, .int .i64 t2, .int .i64 t3]] w fun e w' => e = .returned (.bool (decide (q0 ≤ t2 ∧ t0 ≤ q2 ∧ q1 ≤ t3 ∧ t1 ≤ q3))) ∧ Kept w w' := by
  cases z1 : decide (q0 ≤ t2) <;> cases z2 : decide (t0 ≤ q2) <;> cases z3 : decide (q1 ≤ t3)
  all_goals
    go_enter Try.func62, Try.ntmps62
    repeat (first | go_values | go_skip | go_guarded | go_step | go_upon)
    go_ret
    exact ⟨ret_boolG (by rw [Bool.eq_iff_iff]; simp at z1 z2 z3 ⊢ <;> omega), by (repeat (first | with_reducible exact But.refl _ _ _ | with_reducible apply But.drewN | with_reducible apply But.drew | with_reducible apply But.alloc))⟩
theorem diskNear (x y r u v s : Int) (w : World) (hx : -110000 ≤ x ∧ x ≤ 110000) (hy : -110000 ≤ y ∧ y ≤ 110000) (hr : 1 ≤ r ∧ r ≤ 1000) (hu : -110000 ≤ u ∧ u ≤ 110000) (hv : -110000 ≤ v ∧ v ≤ 110000) (hs : 0 ≤ s ∧ s ≤ 1000) : Calls Try.prog 136 #[.agg #[.int .i64 x, .int .i64 y, .int .i64 r], .int .i64 u, .int .i64 v, .int .i64 s] w fun e w' => e = .returned (.bool (decide ((u - x) * (u - x) + (v - y) * (v - y) ≤ (r + s) * (r + s)))) ∧ Kept w w' := by
  have s0 := sq_bd (z := u - x) (m := 220000) (by omega) (by omega)
  have s1 := sq_bd (z := v - y) (m := 220000) (by omega) (by omega)
  have s2 := sq_bd (z := r + s) (m := 2000) (by omega) (by omega)
  go_enter Try.func136, Try.ntmps136
  repeat (first | go_values | go_skip | go_guarded | go_step | go_upon)
  go_quiet (fail)
  repeat (first | go_values | go_skip | go_guarded | go_step | go_upon)
  go_ret
  exact ⟨rfl, by (repeat (first | with_reducible exact But.refl _ _ _ | with_reducible apply But.drewN | with_reducible apply But.drew | with_reducible apply But.alloc))⟩
theorem boxNear (q0 q1 q2 q3 u v s : Int) (w : World) (h0 : -110000 ≤ q0 ∧ q0 ≤ 110000) (h1 : -110000 ≤ q1 ∧ q1 ≤ 110000) (h2 : -110000 ≤ q2 ∧ q2 ≤ 110000) (h3 : -110000 ≤ q3 ∧ q3 ≤ 110000) (h4 : q0 ≤ q2) (h5 : q1 ≤ q3) (hu : -110000 ≤ u ∧ u ≤ 110000) (hv : -110000 ≤ v ∧ v ≤ 110000) (hs : 0 ≤ s ∧ s ≤ 1000) : Calls Try.prog 134 #[.agg #[.int .i64 q0, .int .i64 q1, .int .i64 q2, .int .i64 q3], .int .i64 u, .int .i64 v, .int .i64 s] w fun e w' => e = .returned (.bool (decide (gap u q0 q2 * gap u q0 q2 + gap v q1 q3 * gap v q1 q3 ≤ s * s))) ∧ Kept w w' := by
  have hm1 : ∀ W : World, (Builtin.max_ #[3, 3, 3] 3 #[.int .i64 (q0 - u), .int .i64 0, .int .i64 (u - q2)]).run Try.prog W = .ok (.int .i64 (gap u q0 q2)) W := fun W => by
    have : (if u - q2 > (if (0 : Int) > q0 - u then 0 else q0 - u) then u - q2 else (if (0 : Int) > q0 - u then 0 else q0 - u)) = gap u q0 q2 := by unfold gap; repeat' split <;> omega
    rw [← this]
    simp [Builtin.max_, Builtin.max2]
  have hm2 : ∀ W : World, (Builtin.max_ #[3, 3, 3] 3 #[.int .i64 (q1 - v), .int .i64 0, .int .i64 (v - q3)]).run Try.prog W = .ok (.int .i64 (gap v q1 q3)) W := fun W => by
    have : (if v - q3 > (if (0 : Int) > q1 - v then 0 else q1 - v) then v - q3 else (if (0 : Int) > q1 - v then 0 else q1 - v)) = gap v q1 q3 := by unfold gap; repeat' split <;> omega
    rw [← this]
    simp [Builtin.max_, Builtin.max2]
  have g1 := gap_bd hu h0 h2
  have g2 := gap_bd hv h1 h3
  have s2 := sq_bd (z := s) (m := 1000) (by omega) (by omega)
  go_enter Try.func134, Try.ntmps134
  repeat (first | go_values | go_skip | go_guarded | go_step | go_upon)
  go_ret
  exact ⟨rfl, by (repeat (first | with_reducible exact But.refl _ _ _ | with_reducible apply But.drewN | with_reducible apply But.drew | with_reducible apply But.alloc))⟩

end Go.Proofs.Ytfibikkbhbmfkaa
