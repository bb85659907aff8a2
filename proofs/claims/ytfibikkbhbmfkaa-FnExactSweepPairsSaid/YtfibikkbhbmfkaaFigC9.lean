/-
  Whether two figures touch.
-/
import Derived.Test.YtfibikkbhbmfkaaFigB9
namespace Go.Proofs.Ytfibikkbhbmfkaa
open Go.ChangeShapes Go.WideShapes Go.ChangeAt Go.RowKit

set_option maxRecDepth 100000
set_option linter.unusedVariables false
set_option linter.unusedSimpArgs false

theorem touch_bb (x y a b u v c e : Int) : decide (TouchP (1, x, y, a, b) (1, u, v, c, e)) = decide (x ≤ u + c ∧ u ≤ x + a ∧ y ≤ v + e ∧ v ≤ y + b) := by
  rw [Bool.eq_iff_iff, decide_eq_true_iff, decide_eq_true_iff]
  simp [TouchP, bnd]
  omega
theorem touch_bd (x y a b u v c e : Int) : decide (TouchP (1, x, y, a, b) (2, u, v, c, e)) = decide (gap u x (x + a) * gap u x (x + a) + gap v y (y + b) * gap v y (y + b) ≤ c * c) := by
  rw [Bool.eq_iff_iff, decide_eq_true_iff, decide_eq_true_iff]
  simp [TouchP, bnd, DiskBox]
theorem touch_db (x y a b u v c e : Int) : decide (TouchP (2, x, y, a, b) (1, u, v, c, e)) = decide (gap x u (u + c) * gap x u (u + c) + gap y v (v + e) * gap y v (v + e) ≤ a * a) := by
  rw [Bool.eq_iff_iff, decide_eq_true_iff, decide_eq_true_iff]
  simp [TouchP, bnd, DiskBox]
theorem touch_dd (x y a b u v c e : Int) : decide (TouchP (2, x, y, a, b) (2, u, v, c, e)) = decide ((x - u) * (x - u) + (y - v) * (y - v) ≤ (c + a) * (c + a)) := by
  rw [Bool.eq_iff_iff, decide_eq_true_iff, decide_eq_true_iff, Int.add_comm c a]
  simp [TouchP]
theorem asD_box (v : Value) (W : World) : (Instr.typeAssert (.iface 60 v) 56 98 true).run Try.prog W = .ok (.tuple #[.agg #[.int .i64 0, .int .i64 0, .int .i64 0], .bool false]) W := by kernel_rfl
theorem asD_disk (v : Value) (W : World) : (Instr.typeAssert (.iface 98 v) 56 98 true).run Try.prog W = .ok (.tuple #[v, .bool true]) W := by kernel_rfl
theorem asB_box (v : Value) (W : World) : (Instr.typeAssert (.iface 60 v) 56 60 true).run Try.prog W = .ok (.tuple #[v, .bool true]) W := by kernel_rfl
theorem asB_disk (v : Value) (W : World) : (Instr.typeAssert (.iface 98 v) 56 60 true).run Try.prog W = .ok (.tuple #[.agg #[.int .i64 0, .int .i64 0, .int .i64 0, .int .i64 0], .bool false]) W := by kernel_rfl
attribute [local go_sem] asD_box asD_disk
set_option maxHeartbeats 4000000 in
theorem touching (p q : ShapeD) (w : World) (h : ShapeP p) (g : ShapeP q) : Calls Try.prog 40 #[figV p, figV q] w fun e' w' => e' = .returned (.bool (decide (TouchP p q))) ∧ Kept w w' := by
  obtain ⟨k, x, y, a, b⟩ := p
  obtain ⟨m, u, v, c, e⟩ := q
  obtain ⟨HX, HY, HA, hh⟩ := h
  obtain ⟨GX, GY, GA, gg⟩ := g
  dsimp only at HX HY HA hh GX GY GA gg
  rcases hh with ⟨rfl, hb⟩ | ⟨rfl, rfl⟩ <;> rcases gg with ⟨rfl, gb⟩ | ⟨rfl, rfl⟩
  · rw [touch_bb, figV_box, figV_box]
    go_enter Try.func40, Try.ntmps40
    repeat (first | go_values | go_skip | go_guarded | go_step | go_upon)
    (go_at_call 133; refine (boxBounds _ _ _ _ _).mono ?_; rintro e w1 ⟨rfl, k1⟩; have hck1 := Kept.cell_eq k1; have hfk1 := Kept.frozen_eq k1; have hzk1 := k1.size; (try simp at hzk1); have nk1 : w.heap.size < w1.heap.size := (by omega); have Kk1 : Kept w w1 := (But.trans (by (repeat (first | with_reducible exact But.refl _ _ _ | with_reducible apply But.drewN | with_reducible apply But.drew | with_reducible apply But.alloc))) k1); clear k1; dsimp only)
    repeat (first | go_values | go_skip | go_guarded | go_step | go_upon)
    (go_at_call 133; refine (boxBounds _ _ _ _ _).mono ?_; rintro e w2 ⟨rfl, k2⟩; have hck2 := Kept.cell_eq k2; have hfk2 := Kept.frozen_eq k2; have hzk2 := k2.size; (try simp at hzk2); have nk2 : w.heap.size < w2.heap.size := (by omega); have Kk2 : Kept w w2 := (But.trans (by (repeat (first | with_reducible exact Kk1 | with_reducible apply But.drewN | with_reducible apply But.drew | with_reducible apply But.alloc))) k2); clear k2; dsimp only)
    repeat (first | go_values | go_skip | go_guarded | go_step | go_upon)
    (go_at_call 62; refine (boxMeets _ _ _ _ _ _ _ _ _).mono ?_; rintro e w3 ⟨rfl, k3⟩; have hck3 := Kept.cell_eq k3; have hfk3 := Kept.frozen_eq k3; have hzk3 := k3.size; (try simp at hzk3); have nk3 : w.heap.size < w3.heap.size := (by omega); have Kk3 : Kept w w3 := (But.trans (by (repeat (first | with_reducible exact Kk2 | with_reducible apply But.drewN | with_reducible apply But.drew | with_reducible apply But.alloc))) k3); clear k3; dsimp only)
    repeat (first | go_values | go_skip | go_guarded | go_step | go_upon)
    go_ret
    exact ⟨rfl, by (repeat (first | with_reducible exact Kk3 | with_reducible apply But.drewN | with_reducible apply But.drew | with_reducible apply But.alloc))⟩
  · rw [touch_bd, figV_box, figV_disk]
    go_enter Try.func40, Try.ntmps40
    repeat (first | go_values | go_skip | go_guarded | go_step | go_upon)
    (go_at_call 134; refine (boxNear _ _ _ _ _ _ _ _ (by omega) (by omega) (by omega) (by omega) (by omega) (by omega) (by omega) (by omega) (by omega)).mono ?_; rintro e w1 ⟨rfl, k1⟩; have hck1 := Kept.cell_eq k1; have hfk1 := Kept.frozen_eq k1; have hzk1 := k1.size; (try simp at hzk1); have nk1 : w.heap.size < w1.heap.size := (by omega); have Kk1 : Kept w w1 := (But.trans (by (repeat (first | with_reducible exact But.refl _ _ _ | with_reducible apply But.drewN | with_reducible apply But.drew | with_reducible apply But.alloc))) k1); clear k1; dsimp only)
    repeat (first | go_values | go_skip | go_guarded | go_step | go_upon)
    go_ret
    exact ⟨rfl, by (repeat (first | with_reducible exact Kk1 | with_reducible apply But.drewN | with_reducible apply But.drew | with_reducible apply But.alloc))⟩
  · rw [touch_db, figV_box, figV_disk]
    go_enter Try.func40, Try.ntmps40
    repeat (first | go_values | go_skip | go_guarded | go_step | go_upon)
    (go_at_call 134; refine (boxNear _ _ _ _ _ _ _ _ (by omega) (by omega) (by omega) (by omega) (by omega) (by omega) (by omega) (by omega) (by omega)).mono ?_; rintro e w1 ⟨rfl, k1⟩; have hck1 := Kept.cell_eq k1; have hfk1 := Kept.frozen_eq k1; have hzk1 := k1.size; (try simp at hzk1); have nk1 : w.heap.size < w1.heap.size := (by omega); have Kk1 : Kept w w1 := (But.trans (by (repeat (first | with_reducible exact But.refl _ _ _ | with_reducible apply But.drewN | with_reducible apply But.drew | with_reducible apply But.alloc))) k1); clear k1; dsimp only)
    repeat (first | go_values | go_skip | go_guarded | go_step | go_upon)
    go_ret
    exact ⟨rfl, by (repeat (first | with_reducible exact Kk1 | with_reducible apply But.drewN | with_reducible apply But.drew | with_reducible apply But.alloc))⟩
  · rw [touch_dd, figV_disk, figV_disk]
    go_enter Try.func40, Try.ntmps40
    repeat (first | go_values | go_skip | go_guarded | go_step | go_upon)
    (go_at_call 136; refine (diskNear _ _ _ _ _ _ _ (by omega) (by omega) (by omega) (by omega) (by omega) (by omega)).mono ?_; rintro e w1 ⟨rfl, k1⟩; have hck1 := Kept.cell_eq k1; have hfk1 := Kept.frozen_eq k1; have hzk1 := k1.size; (try simp at hzk1); have nk1 : w.heap.size < w1.heap.size := (by omega); have Kk1 : Kept w w1 := (But.trans (by (repeat (first | with_reducible exact But.refl _ _ _ | with_reducible apply But.drewN | with_reducible apply But.drew | with_reducible apply But.alloc))) k1); clear k1; dsimp only)
    repeat (first | go_values | go_skip | go_guarded | go_step | go_upon)
    go_ret
    exact ⟨rfl, by (repeat (first | with_reducible exact Kk1 | with_reducible apply But.drewN | with_reducible apply But.drew | with_reducible apply But.alloc))⟩

end Go.Proofs.Ytfibikkbhbmfkaa
