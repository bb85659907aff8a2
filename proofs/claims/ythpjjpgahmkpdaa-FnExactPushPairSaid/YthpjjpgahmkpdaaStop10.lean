/-
  The push that stops two, and a push taken, as the program says it.
-/
import Derived.Test.YthpjjpgahmkpdaaRows10
namespace Go.Proofs.Ythpjjpgahmkpdaa
open Go.ChangeShapes Go.WideShapes Go.ChangeAt Go.RowKit

set_option maxRecDepth 100000
set_option linter.unusedVariables false
set_option linter.unusedSimpArgs false

theorem mul12' {a b : Int} (h1 : -1000000 ≤ a) (h2 : a ≤ 1000000) (h3 : 0 ≤ b) (h4 : b ≤ 12) : -12000000 ≤ a * b ∧ a * b ≤ 12000000 := by
  have k1 := Int.mul_le_mul_of_nonneg_right h2 h3
  have k2 := Int.mul_le_mul_of_nonneg_right h1 h3
  constructor <;> omega
set_option maxHeartbeats 4000000 in
theorem istop (x p m r y q k s : Int) (w : World) (ha : BodyP (x, p, m, r)) (hb : BodyP (y, q, k, s)) : Calls Try.prog 110 #[.agg #[.int .i64 x, .int .i64 p, .int .i64 m], .agg #[.int .i64 y, .int .i64 q, .int .i64 k]] w fun e w' => e = .returned (.agg #[.int .i64 (stop (x, p, m, r) (y, q, k, s)).1, .int .i64 (stop (x, p, m, r) (y, q, k, s)).2]) ∧ Kept w w' := by
  obtain ⟨_, ⟨p1, p2⟩, ⟨m1, m2⟩, _, _⟩ := ha
  obtain ⟨_, ⟨q1, q2⟩, ⟨k1', k2'⟩, _, _⟩ := hb
  dsimp only at p1 p2 m1 m2 q1 q2 k1' k2'
  have e1 := mul12' p1 p2 k1' k2'
  have e2 := mul12' q1 q2 m1 m2
  by_cases hm : m = 0
  · have c0 : (m == 0) = true := by simpa using hm
    rw [show stop (x, p, m, r) (y, q, k, s) = (-q, 1) from if_pos hm]
    have i0 : IntKind.i64.wrap (-q) = -q := IntWalk.i64_in _ (by omega)
    clear hm
    go_enter Try.func110, Try.ntmps110
    repeat (first | go_values | go_skip | go_guarded | go_step | go_upon)
    (go_at_call 89; refine (iwall _ _ _ _).mono ?_; rw [c0]; rintro e w1 ⟨rfl, k1⟩; have HKk1 : Hid (Kept w w1) := (But.trans (by (repeat (first | with_reducible exact But.refl _ _ _ | with_reducible apply But.drewN | with_reducible apply But.drew | with_reducible apply But.alloc | (with_reducible refine But.setNew ?_ (by simp +arith) _)))) k1); have c0_0 : w1.cell? ⟨w.heap.size, 0, none⟩ = some (.int .i64 x) := (by rw [Kept.cell_eq k1 _ _ (by simp +arith)]; simp [go_sem]); have c0_1 : w1.cell? ⟨w.heap.size, 1, none⟩ = some (.int .i64 p) := (by rw [Kept.cell_eq k1 _ _ (by simp +arith)]; simp [go_sem]); have c0_2 : w1.cell? ⟨w.heap.size, 2, none⟩ = some (.int .i64 m) := (by rw [Kept.cell_eq k1 _ _ (by simp +arith)]; simp [go_sem]); have c1_0 : w1.cell? ⟨w.heap.size + 1, 0, none⟩ = some (.int .i64 y) := (by rw [Kept.cell_eq k1 _ _ (by simp +arith)]; simp [go_sem]); have c1_1 : w1.cell? ⟨w.heap.size + 1, 1, none⟩ = some (.int .i64 q) := (by rw [Kept.cell_eq k1 _ _ (by simp +arith)]; simp [go_sem]); have c1_2 : w1.cell? ⟨w.heap.size + 1, 2, none⟩ = some (.int .i64 k) := (by rw [Kept.cell_eq k1 _ _ (by simp +arith)]; simp [go_sem]); have c2_0 : w1.cell? ⟨w.heap.size + 1 + 1, 0, none⟩ = some (.int .i64 0) := (by rw [Kept.cell_eq k1 _ _ (by simp +arith)]; simp [go_sem]); have z2_0 : w1.frozen? ⟨w.heap.size + 1 + 1, 0, none⟩ = false := (by rw [Kept.frozen_eq k1 _ _ (by simp +arith)]; simp [go_sem]); have c2_1 : w1.cell? ⟨w.heap.size + 1 + 1, 1, none⟩ = some (.int .i64 0) := (by rw [Kept.cell_eq k1 _ _ (by simp +arith)]; simp [go_sem]); have z2_1 : w1.frozen? ⟨w.heap.size + 1 + 1, 1, none⟩ = false := (by rw [Kept.frozen_eq k1 _ _ (by simp +arith)]; simp [go_sem]); have szk1 : w.heap.size + 1 + 1 < w1.heap.size := World.block_lt_of_cell? _ _ c2_0; clear k1; dsimp only)
    repeat (first | go_values | go_skip | go_guarded | go_step | go_upon)
    try go_region
    all_goals
      repeat (first | go_values | go_skip | go_guarded | go_step | go_upon)
      refine bodyPost_ret (v := .agg #[.int .i64 (-q), .int .i64 (1)]) (by simp [results, Try.results110, go_sem, *]) rfl ?_
      exact ⟨rfl, by (repeat (first | with_reducible exact HKk1.out | with_reducible apply But.drewN | with_reducible apply But.drew | with_reducible apply But.alloc | (with_reducible refine But.setNew ?_ (by simp +arith) _)))⟩
  · have c0 : (m == 0) = false := by simpa using hm
    by_cases hk : k = 0
    · have c1 : (k == 0) = true := by simpa using hk
      rw [show stop (x, p, m, r) (y, q, k, s) = (p, 1) by rw [stop, if_neg hm, if_pos hk]]
      clear hm hk
      go_enter Try.func110, Try.ntmps110
      repeat (first | go_values | go_skip | go_guarded | go_step | go_upon)
      (go_at_call 89; refine (iwall _ _ _ _).mono ?_; rw [c0]; rintro e w1 ⟨rfl, k1⟩; have HKk1 : Hid (Kept w w1) := (But.trans (by (repeat (first | with_reducible exact But.refl _ _ _ | with_reducible apply But.drewN | with_reducible apply But.drew | with_reducible apply But.alloc | (with_reducible refine But.setNew ?_ (by simp +arith) _)))) k1); have c0_0 : w1.cell? ⟨w.heap.size, 0, none⟩ = some (.int .i64 x) := (by rw [Kept.cell_eq k1 _ _ (by simp +arith)]; simp [go_sem]); have c0_1 : w1.cell? ⟨w.heap.size, 1, none⟩ = some (.int .i64 p) := (by rw [Kept.cell_eq k1 _ _ (by simp +arith)]; simp [go_sem]); have c0_2 : w1.cell? ⟨w.heap.size, 2, none⟩ = some (.int .i64 m) := (by rw [Kept.cell_eq k1 _ _ (by simp +arith)]; simp [go_sem]); have c1_0 : w1.cell? ⟨w.heap.size + 1, 0, none⟩ = some (.int .i64 y) := (by rw [Kept.cell_eq k1 _ _ (by simp +arith)]; simp [go_sem]); have c1_1 : w1.cell? ⟨w.heap.size + 1, 1, none⟩ = some (.int .i64 q) := (by rw [Kept.cell_eq k1 _ _ (by simp +arith)]; simp [go_sem]); have c1_2 : w1.cell? ⟨w.heap.size + 1, 2, none⟩ = some (.int .i64 k) := (by rw [Kept.cell_eq k1 _ _ (by simp +arith)]; simp [go_sem]); have c2_0 : w1.cell? ⟨w.heap.size + 1 + 1, 0, none⟩ = some (.int .i64 0) := (by rw [Kept.cell_eq k1 _ _ (by simp +arith)]; simp [go_sem]); have z2_0 : w1.frozen? ⟨w.heap.size + 1 + 1, 0, none⟩ = false := (by rw [Kept.frozen_eq k1 _ _ (by simp +arith)]; simp [go_sem]); have c2_1 : w1.cell? ⟨w.heap.size + 1 + 1, 1, none⟩ = some (.int .i64 0) := (by rw [Kept.cell_eq k1 _ _ (by simp +arith)]; simp [go_sem]); have z2_1 : w1.frozen? ⟨w.heap.size + 1 + 1, 1, none⟩ = false := (by rw [Kept.frozen_eq k1 _ _ (by simp +arith)]; simp [go_sem]); have szk1 : w.heap.size + 1 + 1 < w1.heap.size := World.block_lt_of_cell? _ _ c2_0; clear k1; dsimp only)
      repeat (first | go_values | go_skip | go_guarded | go_step | go_upon)
      (go_at_call 89; refine (iwall _ _ _ _).mono ?_; rw [c1]; rintro e w2 ⟨rfl, k2⟩; have HKk2 : Hid (Kept w w2) := (HKk1.out.trans k2); have c0_0 := Kept.cell k2 c0_0; have c0_1 := Kept.cell k2 c0_1; have c0_2 := Kept.cell k2 c0_2; have c1_0 := Kept.cell k2 c1_0; have c1_1 := Kept.cell k2 c1_1; have c1_2 := Kept.cell k2 c1_2; have c2_0 := Kept.cell k2 c2_0; have z2_0 := (Kept.frozen_eq k2 _ 0 (by omega)).trans z2_0; have c2_1 := Kept.cell k2 c2_1; have z2_1 := (Kept.frozen_eq k2 _ 1 (by omega)).trans z2_1; have szk2 : w.heap.size + 1 + 1 < w2.heap.size := World.block_lt_of_cell? _ _ c2_0; clear k2; dsimp only)
      repeat (first | go_values | go_skip | go_guarded | go_step | go_upon)
      try go_region
      all_goals
        repeat (first | go_values | go_skip | go_guarded | go_step | go_upon)
        refine bodyPost_ret (v := .agg #[.int .i64 (p), .int .i64 (1)]) (by simp [results, Try.results110, go_sem, *]) rfl ?_
        exact ⟨rfl, by (repeat (first | with_reducible exact HKk2.out | with_reducible apply But.drewN | with_reducible apply But.drew | with_reducible apply But.alloc | (with_reducible refine But.setNew ?_ (by simp +arith) _)))⟩
    · have c1 : (k == 0) = false := by simpa using hk
      rw [show stop (x, p, m, r) (y, q, k, s) = (p * k - q * m, m + k) by rw [stop, if_neg hm, if_neg hk]]
      have g1 : IntKind.i64.wrap (p * k) = p * k := IntWalk.i64_in _ (by omega)
      have g2 : IntKind.i64.wrap (q * m) = q * m := IntWalk.i64_in _ (by omega)
      have g3 : IntKind.i64.wrap (p * k - q * m) = p * k - q * m := IntWalk.i64_in _ (by omega)
      clear hm hk
      go_enter Try.func110, Try.ntmps110
      repeat (first | go_values | go_skip | go_guarded | go_step | go_upon)
      (go_at_call 89; refine (iwall _ _ _ _).mono ?_; rw [c0]; rintro e w1 ⟨rfl, k1⟩; have HKk1 : Hid (Kept w w1) := (But.trans (by (repeat (first | with_reducible exact But.refl _ _ _ | with_reducible apply But.drewN | with_reducible apply But.drew | with_reducible apply But.alloc | (with_reducible refine But.setNew ?_ (by simp +arith) _)))) k1); have c0_0 : w1.cell? ⟨w.heap.size, 0, none⟩ = some (.int .i64 x) := (by rw [Kept.cell_eq k1 _ _ (by simp +arith)]; simp [go_sem]); have c0_1 : w1.cell? ⟨w.heap.size, 1, none⟩ = some (.int .i64 p) := (by rw [Kept.cell_eq k1 _ _ (by simp +arith)]; simp [go_sem]); have c0_2 : w1.cell? ⟨w.heap.size, 2, none⟩ = some (.int .i64 m) := (by rw [Kept.cell_eq k1 _ _ (by simp +arith)]; simp [go_sem]); have c1_0 : w1.cell? ⟨w.heap.size + 1, 0, none⟩ = some (.int .i64 y) := (by rw [Kept.cell_eq k1 _ _ (by simp +arith)]; simp [go_sem]); have c1_1 : w1.cell? ⟨w.heap.size + 1, 1, none⟩ = some (.int .i64 q) := (by rw [Kept.cell_eq k1 _ _ (by simp +arith)]; simp [go_sem]); have c1_2 : w1.cell? ⟨w.heap.size + 1, 2, none⟩ = some (.int .i64 k) := (by rw [Kept.cell_eq k1 _ _ (by simp +arith)]; simp [go_sem]); have c2_0 : w1.cell? ⟨w.heap.size + 1 + 1, 0, none⟩ = some (.int .i64 0) := (by rw [Kept.cell_eq k1 _ _ (by simp +arith)]; simp [go_sem]); have z2_0 : w1.frozen? ⟨w.heap.size + 1 + 1, 0, none⟩ = false := (by rw [Kept.frozen_eq k1 _ _ (by simp +arith)]; simp [go_sem]); have c2_1 : w1.cell? ⟨w.heap.size + 1 + 1, 1, none⟩ = some (.int .i64 0) := (by rw [Kept.cell_eq k1 _ _ (by simp +arith)]; simp [go_sem]); have z2_1 : w1.frozen? ⟨w.heap.size + 1 + 1, 1, none⟩ = false := (by rw [Kept.frozen_eq k1 _ _ (by simp +arith)]; simp [go_sem]); have szk1 : w.heap.size + 1 + 1 < w1.heap.size := World.block_lt_of_cell? _ _ c2_0; clear k1; dsimp only)
      repeat (first | go_values | go_skip | go_guarded | go_step | go_upon)
      (go_at_call 89; refine (iwall _ _ _ _).mono ?_; rw [c1]; rintro e w2 ⟨rfl, k2⟩; have HKk2 : Hid (Kept w w2) := (HKk1.out.trans k2); have c0_0 := Kept.cell k2 c0_0; have c0_1 := Kept.cell k2 c0_1; have c0_2 := Kept.cell k2 c0_2; have c1_0 := Kept.cell k2 c1_0; have c1_1 := Kept.cell k2 c1_1; have c1_2 := Kept.cell k2 c1_2; have c2_0 := Kept.cell k2 c2_0; have z2_0 := (Kept.frozen_eq k2 _ 0 (by omega)).trans z2_0; have c2_1 := Kept.cell k2 c2_1; have z2_1 := (Kept.frozen_eq k2 _ 1 (by omega)).trans z2_1; have szk2 : w.heap.size + 1 + 1 < w2.heap.size := World.block_lt_of_cell? _ _ c2_0; clear k2; dsimp only)
      repeat (first | go_values | go_skip | go_guarded | go_step | go_upon)
      try go_region
      all_goals
        repeat (first | go_values | go_skip | go_guarded | go_step | go_upon)
        refine bodyPost_ret (v := .agg #[.int .i64 (p * k - q * m), .int .i64 (m + k)]) (by simp [results, Try.results110, go_sem, *]) rfl ?_
        exact ⟨rfl, by (repeat (first | with_reducible exact HKk2.out | with_reducible apply But.drewN | with_reducible apply But.drew | with_reducible apply But.alloc | (with_reducible refine But.setNew ?_ (by simp +arith) _)))⟩
set_option maxHeartbeats 4000000 in
/-- A push taken: a wall stays. -/
theorem itake (g o : Nat) (x p m j : Int) (w : World) (h0 : w.cell? ⟨g, o, none⟩ = some (.int .i64 x)) (h1 : w.cell? ⟨g, o + 1, none⟩ = some (.int .i64 p)) (h2 : w.cell? ⟨g, o + 2, none⟩ = some (.int .i64 m)) (hf : w.frozen? ⟨g, o + 1, none⟩ = false) (hj : -9000000000000000000 ≤ p + j ∧ p + j ≤ 9000000000000000000) :
    Calls Try.prog 111 #[.pointer (some ⟨g, o, none⟩), .int .i64 j] w fun e w' => e = .returned (.tuple #[]) ∧ ∃ w5, Kept w w5 ∧ w' = if m = 0 then w5 else w5.setCell ⟨g, o + 1, none⟩ (.int .i64 (p + j)) := by
  have hg := cell_lt h0
  have i0 : IntKind.i64.wrap (p + j) = p + j := IntWalk.i64_in _ (by omega)
  by_cases hm : m = 0
  · have c0 : (m == 0) = true := by simpa using hm
    have HM : Hid (m = 0) := hm
    clear hm
    go_enter Try.func111, Try.ntmps111
    repeat (first | (go_at_call 89; refine (iwall _ _ _ _).mono ?_; rw [c0]; rintro e w1 ⟨rfl, k1⟩; dsimp only) | go_values | go_skip | go_guarded | go_step | go_upon)
    refine bodyPost_end (v := .tuple #[]) (by simp [results, Try.results111, go_sem]) rfl ?_
    exact ⟨rfl, w1, k1, by rw [if_pos HM.out]⟩
  · have c0 : (m == 0) = false := by simpa using hm
    have HM : Hid (¬ m = 0) := hm
    clear hm
    go_enter Try.func111, Try.ntmps111
    repeat (first | (go_at_call 89; refine (iwall _ _ _ _).mono ?_; rw [c0]; rintro e w1 ⟨rfl, k1⟩; have h1' := Kept.cell k1 h1; have hf' := (Kept.frozen_eq k1 _ (o + 1) hg).trans hf; have HK : Hid (Kept w w1) := k1; clear k1; dsimp only) | go_values | go_skip | go_guarded | go_step | go_upon)
    refine bodyPost_end (v := .tuple #[]) (by simp [results, Try.results111, go_sem]) rfl ?_
    exact ⟨rfl, w1, HK.out, by rw [if_neg HM.out]⟩

end Go.Proofs.Ythpjjpgahmkpdaa
