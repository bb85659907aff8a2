/-
  Whether two shapes touch, as the specification says it.
-/
import Derived.Test.YtfibikkbhbmfkaaGap9
namespace Go.Proofs.Ytfibikkbhbmfkaa
open Go.ChangeShapes Go.WideShapes Go.ChangeAt Go.RowKit

set_option maxHeartbeats 4000000 in
theorem stouch0 (k x y a b m u v c e : Int) (w : World) (h : ShapeP (k, x, y, a, b)) (g : ShapeP (m, u, v, c, e)) : Calls Try.prog 39 #[.agg #[.int .i64 k, .int .i64 x, .int .i64 y, .int .i64 a, .int .i64 b], .agg #[.int .i64 m, .int .i64 u, .int .i64 v, .int .i64 c, .int .i64 e]] w fun e' w' => e' = .returned (.bool (decide (TouchP (k, x, y, a, b) (m, u, v, c, e)))) ∧ Kept w w' := by
  obtain ⟨p1, p2, p3, p4, p5, p6⟩ := bnd_bd h
  obtain ⟨r1, r2, r3, r4, r5, r6⟩ := bnd_bd g
  have HPA : Hid (ShapeP (k, x, y, a, b)) := h
  have HPB : Hid (ShapeP (m, u, v, c, e)) := g
  obtain ⟨⟨q0, q1, q2, q3⟩, hq⟩ : ∃ q, bnd (k, x, y, a, b) = q := ⟨_, rfl⟩
  obtain ⟨⟨t0, t1, t2, t3⟩, ht⟩ : ∃ q, bnd (m, u, v, c, e) = q := ⟨_, rfl⟩
  rw [hq] at p1 p2 p3 p4 p5 p6
  rw [ht] at r1 r2 r3 r4 r5 r6
  dsimp only at p1 p2 p3 p4 p5 p6 r1 r2 r3 r4 r5 r6
  obtain ⟨⟨x1, x2⟩, ⟨y1, y2⟩, ⟨a1, a2⟩, hh⟩ := h
  obtain ⟨⟨u1, u2⟩, ⟨v1, v2⟩, ⟨c1, c2⟩, gg⟩ := g
  dsimp only at x1 x2 y1 y2 a1 a2 hh u1 u2 v1 v2 c1 c2 gg
  have s0 := sq_bd (z := x - u) (m := 200000) (by omega) (by omega)
  have s1 := sq_bd (z := y - v) (m := 200000) (by omega) (by omega)
  have s2 := sq_bd (z := a + c) (m := 2000) (by omega) (by omega)
  have s3 := sq_bd (z := a) (m := 1000) (by omega) (by omega)
  have s4 := sq_bd (z := c) (m := 1000) (by omega) (by omega)
  rcases (show k = 1 ∨ k = 2 by omega) with hk | hk <;> rcases (show m = 1 ∨ m = 2 by omega) with hm | hm <;> subst hk <;> subst hm <;> clear hh gg
  · have key : decide (TouchP (1, x, y, a, b) (1, u, v, c, e)) = (decide (t0 ≤ q2) && decide (q0 ≤ t2) && decide (t1 ≤ q3) && decide (q1 ≤ t3)) := by
      rw [Bool.eq_iff_iff, decide_eq_true_iff]
      simp [TouchP, hq, ht, and_assoc]
    rw [key]
    cases z1 : decide (t0 ≤ q2) <;> cases z2 : decide (q0 ≤ t2) <;> cases z3 : decide (t1 ≤ q3)
    all_goals
      go_enter Try.func39, Try.ntmps39
      repeat (first | go_values | go_skip | go_guarded | go_step | go_upon)
      (go_at_call 37; refine (sbnd _ _ _ _ _ _ HPB.out).mono ?_; unfold Ret4; rw [ht]; rintro e w1 ⟨rfl, k1⟩; have hck1 := Kept.cell_eq k1; have hfk1 := Kept.frozen_eq k1; have hzk1 := k1.size; (try simp at hzk1); have nk1 : w.heap.size < w1.heap.size := (by omega); have Kk1 : Kept w w1 := (But.trans (by (repeat (first | with_reducible exact But.refl _ _ _ | with_reducible apply But.drewN | with_reducible apply But.drew | with_reducible apply But.alloc))) k1); clear k1; dsimp only)
      repeat (first | go_values | go_skip | go_guarded | go_step | go_upon)
      (go_at_call 37; refine (sbnd _ _ _ _ _ _ HPA.out).mono ?_; unfold Ret4; rw [hq]; rintro e w2 ⟨rfl, k2⟩; have hck2 := Kept.cell_eq k2; have hfk2 := Kept.frozen_eq k2; have hzk2 := k2.size; (try simp at hzk2); have nk2 : w.heap.size < w2.heap.size := (by omega); have Kk2 : Kept w w2 := (But.trans (by (repeat (first | with_reducible exact Kk1 | with_reducible apply But.drewN | with_reducible apply But.drew | with_reducible apply But.alloc))) k2); clear k2; dsimp only)
      repeat (first | go_values | go_skip | go_guarded | go_step | go_upon)
      go_ret
      exact ⟨ret_boolG (by simp), by (repeat (first | with_reducible exact Kk2 | with_reducible apply But.drewN | with_reducible apply But.drew | with_reducible apply But.alloc))⟩
  · have key : decide (TouchP (1, x, y, a, b) (2, u, v, c, e)) = decide (gap u q0 q2 * gap u q0 q2 + gap v q1 q3 * gap v q1 q3 ≤ c * c) := by
      rw [Bool.eq_iff_iff, decide_eq_true_iff, decide_eq_true_iff]
      simp [TouchP, DiskBox, hq]
    rw [key]
    have g1 := gap_bd (x := u) (lo := q0) (hi := q2) (by omega) (by omega) (by omega)
    have g2 := gap_bd (x := v) (lo := q1) (hi := q3) (by omega) (by omega) (by omega)
    go_enter Try.func39, Try.ntmps39
    repeat (first | go_values | go_skip | go_guarded | go_step | go_upon)
    (go_at_call 37; refine (sbnd _ _ _ _ _ _ HPA.out).mono ?_; unfold Ret4; rw [hq]; rintro e w1 ⟨rfl, k1⟩; have hck1 := Kept.cell_eq k1; have hfk1 := Kept.frozen_eq k1; have hzk1 := k1.size; (try simp at hzk1); have nk1 : w.heap.size < w1.heap.size := (by omega); have Kk1 : Kept w w1 := (But.trans (by (repeat (first | with_reducible exact But.refl _ _ _ | with_reducible apply But.drewN | with_reducible apply But.drew | with_reducible apply But.alloc | (with_reducible refine But.setNew ?_ (by simp +arith) _)))) k1); clear k1; dsimp only)
    repeat (first | (go_at_call 61; refine (sgap _ _ _ _ (by omega) (by omega) (by omega)).mono ?_; rintro e w' ⟨rfl, rfl⟩; dsimp only) | go_values | go_skip | go_guarded | go_step | go_upon)
    go_ret
    exact ⟨ret_boolG rfl, by (repeat (first | with_reducible exact Kk1 | with_reducible apply But.drewN | with_reducible apply But.drew | with_reducible apply But.alloc))⟩
  · have key : decide (TouchP (2, x, y, a, b) (1, u, v, c, e)) = decide (gap x t0 t2 * gap x t0 t2 + gap y t1 t3 * gap y t1 t3 ≤ a * a) := by
      rw [Bool.eq_iff_iff, decide_eq_true_iff, decide_eq_true_iff]
      simp [TouchP, DiskBox, ht]
    rw [key]
    have g1 := gap_bd (x := x) (lo := t0) (hi := t2) (by omega) (by omega) (by omega)
    have g2 := gap_bd (x := y) (lo := t1) (hi := t3) (by omega) (by omega) (by omega)
    go_enter Try.func39, Try.ntmps39
    repeat (first | (go_at_call 37; refine (sbnd _ _ _ _ _ _ HPB.out).mono ?_; unfold Ret4; rw [ht]; rintro e w1 ⟨rfl, k1⟩; have hck1 := Kept.cell_eq k1; have hfk1 := Kept.frozen_eq k1; have hzk1 := k1.size; (try simp at hzk1); have nk1 : w.heap.size < w1.heap.size := (by omega); have Kk1 : Kept w w1 := (But.trans (by (repeat (first | with_reducible exact But.refl _ _ _ | with_reducible apply But.drewN | with_reducible apply But.drew | with_reducible apply But.alloc))) k1); clear k1; dsimp only) | (go_at_call 61; refine (sgap _ _ _ _ (by omega) (by omega) (by omega)).mono ?_; rintro e w' ⟨rfl, rfl⟩; dsimp only) | go_values | go_skip | go_guarded | go_step | go_upon)
    go_ret
    exact ⟨ret_boolG rfl, by (repeat (first | with_reducible exact Kk1 | with_reducible apply But.drewN | with_reducible apply But.drew | with_reducible apply But.alloc))⟩
  · have key : decide (TouchP (2, x, y, a, b) (2, u, v, c, e)) = decide ((x - u) * (x - u) + (y - v) * (y - v) ≤ (a + c) * (a + c)) := by
      rw [Bool.eq_iff_iff, decide_eq_true_iff, decide_eq_true_iff]
      simp [TouchP]
    rw [key]
    go_enter Try.func39, Try.ntmps39
    repeat (first | go_values | go_skip | go_guarded | go_step | go_upon)
    go_ret
    exact ⟨ret_boolG rfl, by (repeat (first | with_reducible exact But.refl _ _ _ | with_reducible apply But.drewN | with_reducible apply But.drew | with_reducible apply But.alloc))⟩

end Go.Proofs.Ytfibikkbhbmfkaa
