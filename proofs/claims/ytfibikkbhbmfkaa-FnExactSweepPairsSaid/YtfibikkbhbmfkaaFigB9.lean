/-
  The least box round a figure.
-/
import Derived.Test.YtfibikkbhbmfkaaFigA9
namespace Go.Proofs.Ytfibikkbhbmfkaa
open Go.ChangeShapes Go.WideShapes Go.ChangeAt Go.RowKit

set_option maxRecDepth 100000
set_option linter.unusedVariables false
set_option linter.unusedSimpArgs false

theorem figV_box (x y a b : Int) : figV (1, x, y, a, b) = .iface 60 (.agg #[.int .i64 x, .int .i64 y, .int .i64 (x + a), .int .i64 (y + b)]) := rfl
theorem figV_disk (x y a b : Int) : figV (2, x, y, a, b) = .iface 98 (.agg #[.int .i64 x, .int .i64 y, .int .i64 a]) := rfl
theorem kind_of {k x y a b : Int} (h : ShapeP (k, x, y, a, b)) : k = 1 ∧ (1 ≤ b ∧ b ≤ 1000) ∨ k = 2 ∧ b = 0 := h.2.2.2
theorem ibounds (k x y a b : Int) (w : World) : Calls Try.prog 14 #[.agg #[.int .i64 k, .int .i64 x, .int .i64 y, .int .i64 a, .int .i64 b]] w fun e w' => e = Ret4 (bndA (k, x, y, a, b)) ∧ Kept w w' := by
  by_cases h : ShapeP (k, x, y, a, b)
  · have h1 := figR_yes h
    have hb : bndA (k, x, y, a, b) = bnd (k, x, y, a, b) := if_pos h
    rw [hb]
    obtain ⟨HX, HY, HA, hh⟩ := h
    dsimp only at HX HY HA hh
    rcases hh with ⟨rfl, hb⟩ | ⟨rfl, rfl⟩
    · rw [figV_box] at h1
      go_enter Try.func14, Try.ntmps14
      repeat (first | (go_at_call 36; refine (figureOf _ _ _ _ _ _).mono ?_; rw [h1]; rintro e w1 ⟨rfl, k1⟩; have hck1 := Kept.cell_eq k1; have hfk1 := Kept.frozen_eq k1; have hzk1 := k1.size; (try simp at hzk1); have nk1 : w.heap.size < w1.heap.size := (by omega); have Kk1 : Kept w w1 := (But.trans (by (repeat (first | with_reducible exact But.refl _ _ _ | with_reducible apply But.drewN | with_reducible apply But.drew | with_reducible apply But.alloc))) k1); clear k1; dsimp only) | (go_at_call 133; refine (boxBounds _ _ _ _ _).mono ?_; rintro e w2 ⟨rfl, k2⟩; have hck2 := Kept.cell_eq k2; have hfk2 := Kept.frozen_eq k2; have hzk2 := k2.size; (try simp at hzk2); have nk2 : w.heap.size < w2.heap.size := (by omega); have Kk2 : Kept w w2 := (But.trans (by (repeat (first | with_reducible exact Kk1 | with_reducible apply But.drewN | with_reducible apply But.drew | with_reducible apply But.alloc))) k2); clear k2; dsimp only) | go_values | go_skip | go_guarded | go_step | go_upon)
      go_quiet (fail)
      repeat (first | go_values | go_skip | go_guarded | go_step | go_upon)
      refine bodyPost_ret (v := .tuple #[.int .i64 (x), .int .i64 (y), .int .i64 ((x + a)), .int .i64 ((y + b))]) (by simp [results, Try.results14, go_sem]) rfl ?_
      exact ⟨rfl, by (repeat (first | with_reducible exact Kk2 | with_reducible apply But.drewN | with_reducible apply But.drew | with_reducible apply But.alloc))⟩

    · rw [figV_disk] at h1
      go_enter Try.func14, Try.ntmps14
      repeat (first | (go_at_call 36; refine (figureOf _ _ _ _ _ _).mono ?_; rw [h1]; rintro e w1 ⟨rfl, k1⟩; have hck1 := Kept.cell_eq k1; have hfk1 := Kept.frozen_eq k1; have hzk1 := k1.size; (try simp at hzk1); have nk1 : w.heap.size < w1.heap.size := (by omega); have Kk1 : Kept w w1 := (But.trans (by (repeat (first | with_reducible exact But.refl _ _ _ | with_reducible apply But.drewN | with_reducible apply But.drew | with_reducible apply But.alloc))) k1); clear k1; dsimp only) | (go_at_call 135; refine (diskBounds _ _ _ _ HX HY HA).mono ?_; rintro e w2 ⟨rfl, k2⟩; have hck2 := Kept.cell_eq k2; have hfk2 := Kept.frozen_eq k2; have hzk2 := k2.size; (try simp at hzk2); have nk2 : w.heap.size < w2.heap.size := (by omega); have Kk2 : Kept w w2 := (But.trans (by (repeat (first | with_reducible exact Kk1 | with_reducible apply But.drewN | with_reducible apply But.drew | with_reducible apply But.alloc))) k2); clear k2; dsimp only) | go_values | go_skip | go_guarded | go_step | go_upon)
      go_quiet (fail)
      repeat (first | go_values | go_skip | go_guarded | go_step | go_upon)
      refine bodyPost_ret (v := .tuple #[.int .i64 ((x - a)), .int .i64 ((y - a)), .int .i64 ((x + a)), .int .i64 ((y + a))]) (by simp [results, Try.results14, go_sem]) rfl ?_
      exact ⟨rfl, by (repeat (first | with_reducible exact Kk2 | with_reducible apply But.drewN | with_reducible apply But.drew | with_reducible apply But.alloc))⟩

  · have h1 := figR_no h
    have hb : bndA (k, x, y, a, b) = (0, 0, 0, 0) := if_neg h
    rw [hb]
    go_enter Try.func14, Try.ntmps14
    repeat (first | (go_at_call 36; refine (figureOf _ _ _ _ _ _).mono ?_; rw [h1]; rintro e w1 ⟨rfl, k1⟩; have hck1 := Kept.cell_eq k1; have hfk1 := Kept.frozen_eq k1; have hzk1 := k1.size; (try simp at hzk1); have nk1 : w.heap.size < w1.heap.size := (by omega); have Kk1 : Kept w w1 := (But.trans (by (repeat (first | with_reducible exact But.refl _ _ _ | with_reducible apply But.drewN | with_reducible apply But.drew | with_reducible apply But.alloc))) k1); clear k1; dsimp only) | go_values | go_skip | go_guarded | go_step | go_upon)
    refine bodyPost_ret (v := .tuple #[.int .i64 (0), .int .i64 (0), .int .i64 (0), .int .i64 (0)]) (by simp [results, Try.results14, go_sem]) rfl ?_
    exact ⟨rfl, by (repeat (first | with_reducible exact Kk1 | with_reducible apply But.drewN | with_reducible apply But.drew | with_reducible apply But.alloc))⟩


theorem hasP_no {k x y a b u v : Int} (h : ¬ ShapeP (k, x, y, a, b)) : decide (HasP (k, x, y, a, b) u v) = false := decide_eq_false fun hh => h hh.1
set_option maxHeartbeats 4000000 in
theorem ihas (k x y a b u v : Int) (w : World) : Calls Try.prog 16 #[.agg #[.int .i64 k, .int .i64 x, .int .i64 y, .int .i64 a, .int .i64 b], .int .i64 u, .int .i64 v] w fun e w' => e = .returned (.bool (decide (HasP (k, x, y, a, b) u v))) ∧ Kept w w' := by
  by_cases h : ShapeP (k, x, y, a, b)
  · have h1 := figR_yes h
    have HS : Hid (ShapeP (k, x, y, a, b)) := h
    obtain ⟨HX, HY, HA, hh⟩ := h
    dsimp only at HX HY HA hh
    rcases hh with ⟨rfl, hb⟩ | ⟨rfl, rfl⟩
    · rw [figV_box] at h1
      by_cases hi : x ≤ u ∧ u ≤ x + a ∧ y ≤ v ∧ v ≤ y + b
      · have di : decide (x ≤ u ∧ u ≤ x + a ∧ y ≤ v ∧ v ≤ y + b) = true := decide_eq_true hi
        have key : decide (HasP (1, x, y, a, b) u v) = true := by
          rw [decide_eq_true_iff]
          exact ⟨HS.out, hi.1, hi.2.1, hi.2.2.1, hi.2.2.2, .inl rfl⟩
        have key2 : decide (gap u x (x + a) * gap u x (x + a) + gap v y (y + b) * gap v y (y + b) ≤ 0 * 0) = true := by
          rw [show gap u x (x + a) = 0 by unfold gap; repeat' split <;> omega, show gap v y (y + b) = 0 by unfold gap; repeat' split <;> omega]
          rfl
        rw [key]
        go_enter Try.func16, Try.ntmps16
        repeat (first | (go_at_call 36; refine (figureOf _ _ _ _ _ _).mono ?_; rw [h1]; rintro e w1 ⟨rfl, k1⟩; have hck1 := Kept.cell_eq k1; have hfk1 := Kept.frozen_eq k1; have hzk1 := k1.size; (try simp at hzk1); have nk1 : w.heap.size < w1.heap.size := (by omega); have Kk1 : Kept w w1 := (But.trans (by (repeat (first | with_reducible exact But.refl _ _ _ | with_reducible apply But.drewN | with_reducible apply But.drew | with_reducible apply But.alloc))) k1); clear k1; dsimp only) | (go_at_call 133; refine (boxBounds _ _ _ _ _).mono ?_; rintro e w2 ⟨rfl, k2⟩; have hck2 := Kept.cell_eq k2; have hfk2 := Kept.frozen_eq k2; have hzk2 := k2.size; (try simp at hzk2); have nk2 : w.heap.size < w2.heap.size := (by omega); have Kk2 : Kept w w2 := (But.trans (by (repeat (first | with_reducible exact Kk1 | with_reducible apply But.drewN | with_reducible apply But.drew | with_reducible apply But.alloc))) k2); clear k2; dsimp only) | (go_at_call 38; refine (boxHas _ _ _ _ _ _ _).mono ?_; rw [di]; rintro e w3 ⟨rfl, k3⟩; have hck3 := Kept.cell_eq k3; have hfk3 := Kept.frozen_eq k3; have hzk3 := k3.size; (try simp at hzk3); have nk3 : w.heap.size < w3.heap.size := (by omega); have Kk3 : Kept w w3 := (But.trans (by (repeat (first | with_reducible exact Kk2 | with_reducible apply But.drewN | with_reducible apply But.drew | with_reducible apply But.alloc))) k3); clear k3; dsimp only) | (go_at_call 134; refine (boxNear _ _ _ _ _ _ _ _ (by omega) (by omega) (by omega) (by omega) (by omega) (by omega) (by omega) (by omega) (by omega)).mono ?_; rw [key2]; rintro e w4 ⟨rfl, k4⟩; have hck4 := Kept.cell_eq k4; have hfk4 := Kept.frozen_eq k4; have hzk4 := k4.size; (try simp at hzk4); have nk4 : w.heap.size < w4.heap.size := (by omega); have Kk4 : Kept w w4 := (But.trans (by (repeat (first | with_reducible exact Kk3 | with_reducible apply But.drewN | with_reducible apply But.drew | with_reducible apply But.alloc))) k4); clear k4; dsimp only) | go_values | go_skip | go_guarded | go_step | go_upon)
        go_ret
        exact ⟨rfl, by (repeat (first | with_reducible exact Kk4 | with_reducible apply But.drewN | with_reducible apply But.drew | with_reducible apply But.alloc))⟩
      · have di : decide (x ≤ u ∧ u ≤ x + a ∧ y ≤ v ∧ v ≤ y + b) = false := decide_eq_false hi
        have key : decide (HasP (1, x, y, a, b) u v) = false := decide_eq_false fun hh => hi ⟨hh.2.1, hh.2.2.1, hh.2.2.2.1, hh.2.2.2.2.1⟩
        rw [key]
        go_enter Try.func16, Try.ntmps16
        repeat (first | (go_at_call 36; refine (figureOf _ _ _ _ _ _).mono ?_; rw [h1]; rintro e w1 ⟨rfl, k1⟩; have hck1 := Kept.cell_eq k1; have hfk1 := Kept.frozen_eq k1; have hzk1 := k1.size; (try simp at hzk1); have nk1 : w.heap.size < w1.heap.size := (by omega); have Kk1 : Kept w w1 := (But.trans (by (repeat (first | with_reducible exact But.refl _ _ _ | with_reducible apply But.drewN | with_reducible apply But.drew | with_reducible apply But.alloc))) k1); clear k1; dsimp only) | (go_at_call 133; refine (boxBounds _ _ _ _ _).mono ?_; rintro e w2 ⟨rfl, k2⟩; have hck2 := Kept.cell_eq k2; have hfk2 := Kept.frozen_eq k2; have hzk2 := k2.size; (try simp at hzk2); have nk2 : w.heap.size < w2.heap.size := (by omega); have Kk2 : Kept w w2 := (But.trans (by (repeat (first | with_reducible exact Kk1 | with_reducible apply But.drewN | with_reducible apply But.drew | with_reducible apply But.alloc))) k2); clear k2; dsimp only) | (go_at_call 38; refine (boxHas _ _ _ _ _ _ _).mono ?_; rw [di]; rintro e w3 ⟨rfl, k3⟩; have hck3 := Kept.cell_eq k3; have hfk3 := Kept.frozen_eq k3; have hzk3 := k3.size; (try simp at hzk3); have nk3 : w.heap.size < w3.heap.size := (by omega); have Kk3 : Kept w w3 := (But.trans (by (repeat (first | with_reducible exact Kk2 | with_reducible apply But.drewN | with_reducible apply But.drew | with_reducible apply But.alloc))) k3); clear k3; dsimp only) | go_values | go_skip | go_guarded | go_step | go_upon)
        go_ret
        exact ⟨rfl, by (repeat (first | with_reducible exact Kk3 | with_reducible apply But.drewN | with_reducible apply But.drew | with_reducible apply But.alloc))⟩
    · rw [figV_disk] at h1
      by_cases hi : x - a ≤ u ∧ u ≤ x + a ∧ y - a ≤ v ∧ v ≤ y + a
      · have di : decide (x - a ≤ u ∧ u ≤ x + a ∧ y - a ≤ v ∧ v ≤ y + a) = true := decide_eq_true hi
        have key : decide (HasP (2, x, y, a, 0) u v) = decide ((u - x) * (u - x) + (v - y) * (v - y) ≤ a * a) := by
          rw [Bool.eq_iff_iff, decide_eq_true_iff, decide_eq_true_iff]
          refine ⟨fun hh => ?_, fun hh => ⟨HS.out, hi.1, hi.2.1, hi.2.2.1, hi.2.2.2, .inr hh⟩⟩
          rcases hh.2.2.2.2.2 with h | h
          · exact absurd h (by simp)
          · exact h
        rw [key]
        go_enter Try.func16, Try.ntmps16
        repeat (first | (go_at_call 36; refine (figureOf _ _ _ _ _ _).mono ?_; rw [h1]; rintro e w1 ⟨rfl, k1⟩; have hck1 := Kept.cell_eq k1; have hfk1 := Kept.frozen_eq k1; have hzk1 := k1.size; (try simp at hzk1); have nk1 : w.heap.size < w1.heap.size := (by omega); have Kk1 : Kept w w1 := (But.trans (by (repeat (first | with_reducible exact But.refl _ _ _ | with_reducible apply But.drewN | with_reducible apply But.drew | with_reducible apply But.alloc))) k1); clear k1; dsimp only) | (go_at_call 135; refine (diskBounds _ _ _ _ HX HY HA).mono ?_; rintro e w2 ⟨rfl, k2⟩; have hck2 := Kept.cell_eq k2; have hfk2 := Kept.frozen_eq k2; have hzk2 := k2.size; (try simp at hzk2); have nk2 : w.heap.size < w2.heap.size := (by omega); have Kk2 : Kept w w2 := (But.trans (by (repeat (first | with_reducible exact Kk1 | with_reducible apply But.drewN | with_reducible apply But.drew | with_reducible apply But.alloc))) k2); clear k2; dsimp only) | (go_at_call 38; refine (boxHas _ _ _ _ _ _ _).mono ?_; rw [di]; rintro e w3 ⟨rfl, k3⟩; have hck3 := Kept.cell_eq k3; have hfk3 := Kept.frozen_eq k3; have hzk3 := k3.size; (try simp at hzk3); have nk3 : w.heap.size < w3.heap.size := (by omega); have Kk3 : Kept w w3 := (But.trans (by (repeat (first | with_reducible exact Kk2 | with_reducible apply But.drewN | with_reducible apply But.drew | with_reducible apply But.alloc))) k3); clear k3; dsimp only) | (go_at_call 136; refine (diskNear _ _ _ _ _ _ _ (by omega) (by omega) (by omega) (by omega) (by omega) (by omega)).mono ?_; rintro e w4 ⟨rfl, k4⟩; have hck4 := Kept.cell_eq k4; have hfk4 := Kept.frozen_eq k4; have hzk4 := k4.size; (try simp at hzk4); have nk4 : w.heap.size < w4.heap.size := (by omega); have Kk4 : Kept w w4 := (But.trans (by (repeat (first | with_reducible exact Kk3 | with_reducible apply But.drewN | with_reducible apply But.drew | with_reducible apply But.alloc))) k4); clear k4; dsimp only) | go_values | go_skip | go_guarded | go_step | go_upon)
        go_ret
        exact ⟨rfl, by (repeat (first | with_reducible exact Kk4 | with_reducible apply But.drewN | with_reducible apply But.drew | with_reducible apply But.alloc))⟩
      · have di : decide (x - a ≤ u ∧ u ≤ x + a ∧ y - a ≤ v ∧ v ≤ y + a) = false := decide_eq_false hi
        have key : decide (HasP (2, x, y, a, 0) u v) = false := decide_eq_false fun hh => hi ⟨hh.2.1, hh.2.2.1, hh.2.2.2.1, hh.2.2.2.2.1⟩
        rw [key]
        go_enter Try.func16, Try.ntmps16
        repeat (first | (go_at_call 36; refine (figureOf _ _ _ _ _ _).mono ?_; rw [h1]; rintro e w1 ⟨rfl, k1⟩; have hck1 := Kept.cell_eq k1; have hfk1 := Kept.frozen_eq k1; have hzk1 := k1.size; (try simp at hzk1); have nk1 : w.heap.size < w1.heap.size := (by omega); have Kk1 : Kept w w1 := (But.trans (by (repeat (first | with_reducible exact But.refl _ _ _ | with_reducible apply But.drewN | with_reducible apply But.drew | with_reducible apply But.alloc))) k1); clear k1; dsimp only) | (go_at_call 135; refine (diskBounds _ _ _ _ HX HY HA).mono ?_; rintro e w2 ⟨rfl, k2⟩; have hck2 := Kept.cell_eq k2; have hfk2 := Kept.frozen_eq k2; have hzk2 := k2.size; (try simp at hzk2); have nk2 : w.heap.size < w2.heap.size := (by omega); have Kk2 : Kept w w2 := (But.trans (by (repeat (first | with_reducible exact Kk1 | with_reducible apply But.drewN | with_reducible apply But.drew | with_reducible apply But.alloc))) k2); clear k2; dsimp only) | (go_at_call 38; refine (boxHas _ _ _ _ _ _ _).mono ?_; rw [di]; rintro e w3 ⟨rfl, k3⟩; have hck3 := Kept.cell_eq k3; have hfk3 := Kept.frozen_eq k3; have hzk3 := k3.size; (try simp at hzk3); have nk3 : w.heap.size < w3.heap.size := (by omega); have Kk3 : Kept w w3 := (But.trans (by (repeat (first | with_reducible exact Kk2 | with_reducible apply But.drewN | with_reducible apply But.drew | with_reducible apply But.alloc))) k3); clear k3; dsimp only) | go_values | go_skip | go_guarded | go_step | go_upon)
        go_ret
        exact ⟨rfl, by (repeat (first | with_reducible exact Kk3 | with_reducible apply But.drewN | with_reducible apply But.drew | with_reducible apply But.alloc))⟩
  · have h1 := figR_no h
    rw [hasP_no h]
    go_enter Try.func16, Try.ntmps16
    repeat (first | (go_at_call 36; refine (figureOf _ _ _ _ _ _).mono ?_; rw [h1]; rintro e w1 ⟨rfl, k1⟩; have hck1 := Kept.cell_eq k1; have hfk1 := Kept.frozen_eq k1; have hzk1 := k1.size; (try simp at hzk1); have nk1 : w.heap.size < w1.heap.size := (by omega); have Kk1 : Kept w w1 := (But.trans (by (repeat (first | with_reducible exact But.refl _ _ _ | with_reducible apply But.drewN | with_reducible apply But.drew | with_reducible apply But.alloc))) k1); clear k1; dsimp only) | go_values | go_skip | go_guarded | go_step | go_upon)
    go_ret
    exact ⟨rfl, by (repeat (first | with_reducible exact Kk1 | with_reducible apply But.drewN | with_reducible apply But.drew | with_reducible apply But.alloc))⟩

end Go.Proofs.Ytfibikkbhbmfkaa
