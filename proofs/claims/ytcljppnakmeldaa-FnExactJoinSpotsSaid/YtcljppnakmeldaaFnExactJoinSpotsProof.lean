/-
  At every two spots the program's JoinSpots answers what the specification's JoinSpots answers, and writes into no argument.
-/
import Derived.Test.YtcljppnakmeldaaRows
import Derived.Test.YtcljppnakmeldaaSpotLaw
import Derived.Test.YtcljppnakmeldaaOpen
import Derived.ChangeMaps
namespace Go.Proofs.Ytcljppnakmeldaa.fnExactJoinSpots
open Go.ChangeShapes Go.WideShapes Go.ChangeAt Go.RowKit
set_option linter.unusedVariables false

theorem own : ownKnob Try.prog.godebug = none := by kernel_rfl

set_option maxRecDepth 100000 in
set_option maxHeartbeats 8000000 in
theorem walk (ax ay at' : Int) (af : Bool) (bx bY bt : Int) (bf : Bool) (w : World) : Calls Try.prog 6 #[.agg #[.int .i64 ax, .int .i64 ay, .int .i64 at', .bool af], .agg #[.int .i64 bx, .int .i64 bY, .int .i64 bt, .bool bf]] w fun e w' => e = .returned (.bool true) ∧ Kept w w' := by
  obtain ⟨⟨⟨jx, jy, jt, jf⟩, jb⟩, hJ⟩ : ∃ j, joinA (ax, ay, at', af) (bx, bY, bt, bf) = j := ⟨_, rfl⟩
  have hS := specJoinSpots (ax, ay, at', af) (bx, bY, bt, bf)
  have hI := implJoin (ax, ay, at', af) (bx, bY, bt, bf)
  rw [hJ] at hS hI
  dsimp only at hS hI
  have HS : Hid _ := hS
  have HI : Hid _ := hI
  clear hS hI hJ
  go_enter Try.func6, Try.ntmps6
  repeat (first | go_values | go_skip | go_guarded | go_step | go_upon)
  go_region_held3 (fun w' => w'.cell? ⟨w.heap.size, 0, none⟩ = some (.int .i64 ax) ∧ w'.cell? ⟨w.heap.size, 1, none⟩ = some (.int .i64 ay) ∧ w'.cell? ⟨w.heap.size, 2, none⟩ = some (.int .i64 at') ∧ w'.cell? ⟨w.heap.size, 3, none⟩ = some (.bool af) ∧ w'.cell? ⟨w.heap.size + 1, 0, none⟩ = some (.int .i64 bx) ∧ w'.cell? ⟨w.heap.size + 1, 1, none⟩ = some (.int .i64 bY) ∧ w'.cell? ⟨w.heap.size + 1, 2, none⟩ = some (.int .i64 bt) ∧ w'.cell? ⟨w.heap.size + 1, 3, none⟩ = some (.bool bf)) (simp [go_sem, *])
    (first | (go_at_call 28; refine (toSpotX _ _ _ _ _).mono ?_; rintro e w' ⟨rfl, rfl⟩)
           | (go_at_call 27; refine (HS.out _).mono ?_; rintro e w1 ⟨rfl, k1⟩; have hc1 := k1.cell_eq; have hf1 := k1.frozen_eq; have hz1 := k1.size; simp at hz1; have n0 : w.heap.size < w1.heap.size := (by omega); have n1 : w.heap.size + 1 < w1.heap.size := (by omega); have KW1 : Kept w w1 := (But.trans (by (repeat (first | with_reducible exact But.refl _ _ _ | with_reducible apply But.drewN | with_reducible apply But.drew | with_reducible apply But.alloc | (with_reducible refine But.setNew ?_ (by simp +arith) _)))) k1)))
  all_goals repeat (first | go_values | go_skip | go_guarded | go_step | go_upon)
  · refine forget (fun w' => w'.cell? ⟨w.heap.size, 0, none⟩ = some (.int .i64 ax) ∧ w'.cell? ⟨w.heap.size, 1, none⟩ = some (.int .i64 ay) ∧ w'.cell? ⟨w.heap.size, 2, none⟩ = some (.int .i64 at') ∧ w'.cell? ⟨w.heap.size, 3, none⟩ = some (.bool af) ∧ w'.cell? ⟨w.heap.size + 1, 0, none⟩ = some (.int .i64 bx) ∧ w'.cell? ⟨w.heap.size + 1, 1, none⟩ = some (.int .i64 bY) ∧ w'.cell? ⟨w.heap.size + 1, 2, none⟩ = some (.int .i64 bt) ∧ w'.cell? ⟨w.heap.size + 1, 3, none⟩ = some (.bool bf) ∧ w'.cell? ⟨w1.heap.size, 0, none⟩ = some (.int .i64 jx) ∧ w'.cell? ⟨w1.heap.size, 1, none⟩ = some (.int .i64 jy) ∧ w'.cell? ⟨w1.heap.size, 2, none⟩ = some (.int .i64 jt) ∧ w'.cell? ⟨w1.heap.size, 3, none⟩ = some (.bool jf) ∧ w.heap.size + 1 < w1.heap.size ∧ w1.heap.size < w'.heap.size ∧ Kept w w') ⟨by simp [go_sem, *], by simp [go_sem, *], by simp [go_sem, *], by simp [go_sem, *], by simp [go_sem, *], by simp [go_sem, *], by simp [go_sem, *], by simp [go_sem, *], by simp [go_sem, *], by simp [go_sem, *], by simp [go_sem, *], by simp [go_sem, *], n1, by simp, by (repeat (first | with_reducible exact KW1 | with_reducible apply But.drewN | with_reducible apply But.drew | with_reducible apply But.alloc | (with_reducible refine But.setNew ?_ (by simp +arith) _)))⟩ ?_
    clear hc1 hf1 k1 KW1 n0 n1
    rintro W1 ⟨c0, c1, c2, c3, c4, c5, c6, c7, r0, r1, r2, r3, hlt, hgl, hgW⟩
    generalize w1.heap.size = g1 at r0 r1 r2 r3 hlt hgl ⊢
    have x0_0 : w.heap.size < W1.heap.size := by omega
    have x0_1 : w.heap.size < W1.heap.size + 1 := by omega
    have x0_2 : w.heap.size < W1.heap.size + 1 + 1 := by omega
    have x0_3 : w.heap.size < W1.heap.size + 1 + 1 + 1 := by omega
    have x0_4 : w.heap.size < W1.heap.size + 1 + 1 + 1 + 1 := by omega
    have x0_5 : w.heap.size < W1.heap.size + 1 + 1 + 1 + 1 + 1 := by omega
    have x0_6 : w.heap.size < W1.heap.size + 1 + 1 + 1 + 1 + 1 + 1 := by omega
    have x0_7 : w.heap.size < W1.heap.size + 1 + 1 + 1 + 1 + 1 + 1 + 1 := by omega
    have x1_0 : w.heap.size + 1 < W1.heap.size := by omega
    have x1_1 : w.heap.size + 1 < W1.heap.size + 1 := by omega
    have x1_2 : w.heap.size + 1 < W1.heap.size + 1 + 1 := by omega
    have x1_3 : w.heap.size + 1 < W1.heap.size + 1 + 1 + 1 := by omega
    have x1_4 : w.heap.size + 1 < W1.heap.size + 1 + 1 + 1 + 1 := by omega
    have x1_5 : w.heap.size + 1 < W1.heap.size + 1 + 1 + 1 + 1 + 1 := by omega
    have x1_6 : w.heap.size + 1 < W1.heap.size + 1 + 1 + 1 + 1 + 1 + 1 := by omega
    have x1_7 : w.heap.size + 1 < W1.heap.size + 1 + 1 + 1 + 1 + 1 + 1 + 1 := by omega
    have x2_0 : g1 < W1.heap.size := by omega
    have x2_1 : g1 < W1.heap.size + 1 := by omega
    have x2_2 : g1 < W1.heap.size + 1 + 1 := by omega
    have x2_3 : g1 < W1.heap.size + 1 + 1 + 1 := by omega
    have x2_4 : g1 < W1.heap.size + 1 + 1 + 1 + 1 := by omega
    have x2_5 : g1 < W1.heap.size + 1 + 1 + 1 + 1 + 1 := by omega
    have x2_6 : g1 < W1.heap.size + 1 + 1 + 1 + 1 + 1 + 1 := by omega
    have x2_7 : g1 < W1.heap.size + 1 + 1 + 1 + 1 + 1 + 1 + 1 := by omega
    go_region_held3 (fun w' => w'.cell? ⟨w.heap.size, 0, none⟩ = some (.int .i64 ax) ∧ w'.cell? ⟨w.heap.size, 1, none⟩ = some (.int .i64 ay) ∧ w'.cell? ⟨w.heap.size, 2, none⟩ = some (.int .i64 at') ∧ w'.cell? ⟨w.heap.size, 3, none⟩ = some (.bool af) ∧ w'.cell? ⟨w.heap.size + 1, 0, none⟩ = some (.int .i64 bx) ∧ w'.cell? ⟨w.heap.size + 1, 1, none⟩ = some (.int .i64 bY) ∧ w'.cell? ⟨w.heap.size + 1, 2, none⟩ = some (.int .i64 bt) ∧ w'.cell? ⟨w.heap.size + 1, 3, none⟩ = some (.bool bf) ∧ w'.cell? ⟨g1, 0, none⟩ = some (.int .i64 jx) ∧ w'.cell? ⟨g1, 1, none⟩ = some (.int .i64 jy) ∧ w'.cell? ⟨g1, 2, none⟩ = some (.int .i64 jt) ∧ w'.cell? ⟨g1, 3, none⟩ = some (.bool jf)) (simp [go_sem, *])
      (first | (go_at_call 28; refine (toSpotX _ _ _ _ _).mono ?_; rintro e w' ⟨rfl, rfl⟩)
             | (go_at_call 15; refine (HI.out _).mono ?_; rintro e w2 ⟨rfl, k2⟩; have hc2 := k2.cell_eq; have hf2 := k2.frozen_eq; have hz2 := k2.size; simp at hz2; have q0 : w.heap.size < w2.heap.size := (by omega); have q1 : w.heap.size + 1 < w2.heap.size := (by omega); have q2 : g1 < w2.heap.size := (by omega); have KW2 : Kept w w2 := (But.trans (by (repeat (first | with_reducible exact hgW | with_reducible apply But.drewN | with_reducible apply But.drew | with_reducible apply But.alloc | (with_reducible refine But.setNew ?_ (by simp; try omega) _)))) k2); (try have y0 : (w2.cell? ⟨W1.heap.size, 0, none⟩).isSome = true := (by rw [hc2 _ _ (by simp +arith)]; simp [go_sem])); (try have y1 : (w2.cell? ⟨W1.heap.size, 1, none⟩).isSome = true := (by rw [hc2 _ _ (by simp +arith)]; simp [go_sem])); (try have y2 : (w2.cell? ⟨W1.heap.size, 2, none⟩).isSome = true := (by rw [hc2 _ _ (by simp +arith)]; simp [go_sem])); (try have y3 : (w2.cell? ⟨W1.heap.size, 3, none⟩).isSome = true := (by rw [hc2 _ _ (by simp +arith)]; simp [go_sem]))))
    all_goals
      repeat (first | go_values | go_skip | go_guarded | go_step | go_upon)
      go_at_call 26
      refine (eqSpot _ _ _ _ _).mono ?_
      rintro e w3 ⟨rfl, k3⟩
      dsimp only
      go_wp2
      go_ret
      refine ⟨rfl, But.trans ?_ k3⟩
      (repeat (first | with_reducible exact KW2 | with_reducible apply But.drewN | with_reducible apply But.drew | with_reducible apply But.alloc | (with_reducible refine But.setNew ?_ (by simp; try omega) _)))
  · refine forget (fun w' => w'.cell? ⟨w.heap.size, 0, none⟩ = some (.int .i64 ax) ∧ w'.cell? ⟨w.heap.size, 1, none⟩ = some (.int .i64 ay) ∧ w'.cell? ⟨w.heap.size, 2, none⟩ = some (.int .i64 at') ∧ w'.cell? ⟨w.heap.size, 3, none⟩ = some (.bool af) ∧ w'.cell? ⟨w.heap.size + 1, 0, none⟩ = some (.int .i64 bx) ∧ w'.cell? ⟨w.heap.size + 1, 1, none⟩ = some (.int .i64 bY) ∧ w'.cell? ⟨w.heap.size + 1, 2, none⟩ = some (.int .i64 bt) ∧ w'.cell? ⟨w.heap.size + 1, 3, none⟩ = some (.bool bf) ∧ w'.cell? ⟨w.heap.size + 1 + 1 + 1 + 1 + 1 + 1 + 1 + 1, 0, none⟩ = some (.int .i64 jx) ∧ w'.cell? ⟨w.heap.size + 1 + 1 + 1 + 1 + 1 + 1 + 1 + 1, 1, none⟩ = some (.int .i64 jy) ∧ w'.cell? ⟨w.heap.size + 1 + 1 + 1 + 1 + 1 + 1 + 1 + 1, 2, none⟩ = some (.int .i64 jt) ∧ w'.cell? ⟨w.heap.size + 1 + 1 + 1 + 1 + 1 + 1 + 1 + 1, 3, none⟩ = some (.bool jf) ∧ w.heap.size + 1 < w.heap.size + 1 + 1 + 1 + 1 + 1 + 1 + 1 + 1 ∧ w.heap.size + 1 + 1 + 1 + 1 + 1 + 1 + 1 + 1 < w'.heap.size ∧ Kept w w') ⟨by simp [go_sem, *], by simp [go_sem, *], by simp [go_sem, *], by simp [go_sem, *], by simp [go_sem, *], by simp [go_sem, *], by simp [go_sem, *], by simp [go_sem, *], by simp [go_sem, *], by simp [go_sem, *], by simp [go_sem, *], by simp [go_sem, *], by simp +arith, by simp; omega, by (repeat (first | with_reducible exact KW1 | with_reducible apply But.drewN | with_reducible apply But.drew | with_reducible apply But.alloc | (with_reducible refine But.setNew ?_ (by simp +arith) _)))⟩ ?_
    clear hc1 hf1 k1 KW1 n0 n1
    rintro W1 ⟨c0, c1, c2, c3, c4, c5, c6, c7, r0, r1, r2, r3, hlt, hgl, hgW⟩
    generalize w.heap.size + 1 + 1 + 1 + 1 + 1 + 1 + 1 + 1 = g1 at r0 r1 r2 r3 hlt hgl ⊢
    have x0_0 : w.heap.size < W1.heap.size := by omega
    have x0_1 : w.heap.size < W1.heap.size + 1 := by omega
    have x0_2 : w.heap.size < W1.heap.size + 1 + 1 := by omega
    have x0_3 : w.heap.size < W1.heap.size + 1 + 1 + 1 := by omega
    have x0_4 : w.heap.size < W1.heap.size + 1 + 1 + 1 + 1 := by omega
    have x0_5 : w.heap.size < W1.heap.size + 1 + 1 + 1 + 1 + 1 := by omega
    have x0_6 : w.heap.size < W1.heap.size + 1 + 1 + 1 + 1 + 1 + 1 := by omega
    have x0_7 : w.heap.size < W1.heap.size + 1 + 1 + 1 + 1 + 1 + 1 + 1 := by omega
    have x1_0 : w.heap.size + 1 < W1.heap.size := by omega
    have x1_1 : w.heap.size + 1 < W1.heap.size + 1 := by omega
    have x1_2 : w.heap.size + 1 < W1.heap.size + 1 + 1 := by omega
    have x1_3 : w.heap.size + 1 < W1.heap.size + 1 + 1 + 1 := by omega
    have x1_4 : w.heap.size + 1 < W1.heap.size + 1 + 1 + 1 + 1 := by omega
    have x1_5 : w.heap.size + 1 < W1.heap.size + 1 + 1 + 1 + 1 + 1 := by omega
    have x1_6 : w.heap.size + 1 < W1.heap.size + 1 + 1 + 1 + 1 + 1 + 1 := by omega
    have x1_7 : w.heap.size + 1 < W1.heap.size + 1 + 1 + 1 + 1 + 1 + 1 + 1 := by omega
    have x2_0 : g1 < W1.heap.size := by omega
    have x2_1 : g1 < W1.heap.size + 1 := by omega
    have x2_2 : g1 < W1.heap.size + 1 + 1 := by omega
    have x2_3 : g1 < W1.heap.size + 1 + 1 + 1 := by omega
    have x2_4 : g1 < W1.heap.size + 1 + 1 + 1 + 1 := by omega
    have x2_5 : g1 < W1.heap.size + 1 + 1 + 1 + 1 + 1 := by omega
    have x2_6 : g1 < W1.heap.size + 1 + 1 + 1 + 1 + 1 + 1 := by omega
    have x2_7 : g1 < W1.heap.size + 1 + 1 + 1 + 1 + 1 + 1 + 1 := by omega
    go_region_held3 (fun w' => w'.cell? ⟨w.heap.size, 0, none⟩ = some (.int .i64 ax) ∧ w'.cell? ⟨w.heap.size, 1, none⟩ = some (.int .i64 ay) ∧ w'.cell? ⟨w.heap.size, 2, none⟩ = some (.int .i64 at') ∧ w'.cell? ⟨w.heap.size, 3, none⟩ = some (.bool af) ∧ w'.cell? ⟨w.heap.size + 1, 0, none⟩ = some (.int .i64 bx) ∧ w'.cell? ⟨w.heap.size + 1, 1, none⟩ = some (.int .i64 bY) ∧ w'.cell? ⟨w.heap.size + 1, 2, none⟩ = some (.int .i64 bt) ∧ w'.cell? ⟨w.heap.size + 1, 3, none⟩ = some (.bool bf) ∧ w'.cell? ⟨g1, 0, none⟩ = some (.int .i64 jx) ∧ w'.cell? ⟨g1, 1, none⟩ = some (.int .i64 jy) ∧ w'.cell? ⟨g1, 2, none⟩ = some (.int .i64 jt) ∧ w'.cell? ⟨g1, 3, none⟩ = some (.bool jf)) (simp [go_sem, *])
      (first | (go_at_call 28; refine (toSpotX _ _ _ _ _).mono ?_; rintro e w' ⟨rfl, rfl⟩)
             | (go_at_call 15; refine (HI.out _).mono ?_; rintro e w2 ⟨rfl, k2⟩; have hc2 := k2.cell_eq; have hf2 := k2.frozen_eq; have hz2 := k2.size; simp at hz2; have q0 : w.heap.size < w2.heap.size := (by omega); have q1 : w.heap.size + 1 < w2.heap.size := (by omega); have q2 : g1 < w2.heap.size := (by omega); have KW2 : Kept w w2 := (But.trans (by (repeat (first | with_reducible exact hgW | with_reducible apply But.drewN | with_reducible apply But.drew | with_reducible apply But.alloc | (with_reducible refine But.setNew ?_ (by simp; try omega) _)))) k2); (try have y0 : (w2.cell? ⟨W1.heap.size, 0, none⟩).isSome = true := (by rw [hc2 _ _ (by simp +arith)]; simp [go_sem])); (try have y1 : (w2.cell? ⟨W1.heap.size, 1, none⟩).isSome = true := (by rw [hc2 _ _ (by simp +arith)]; simp [go_sem])); (try have y2 : (w2.cell? ⟨W1.heap.size, 2, none⟩).isSome = true := (by rw [hc2 _ _ (by simp +arith)]; simp [go_sem])); (try have y3 : (w2.cell? ⟨W1.heap.size, 3, none⟩).isSome = true := (by rw [hc2 _ _ (by simp +arith)]; simp [go_sem]))))
    all_goals
      repeat (first | go_values | go_skip | go_guarded | go_step | go_upon)
      go_at_call 26
      refine (eqSpot _ _ _ _ _).mono ?_
      rintro e w3 ⟨rfl, k3⟩
      dsimp only
      go_wp2
      go_ret
      refine ⟨rfl, But.trans ?_ k3⟩
      (repeat (first | with_reducible exact KW2 | with_reducible apply But.drewN | with_reducible apply But.drew | with_reducible apply But.alloc | (with_reducible refine But.setNew ?_ (by simp; try omega) _)))
  · refine forget (fun w' => w'.cell? ⟨w.heap.size, 0, none⟩ = some (.int .i64 ax) ∧ w'.cell? ⟨w.heap.size, 1, none⟩ = some (.int .i64 ay) ∧ w'.cell? ⟨w.heap.size, 2, none⟩ = some (.int .i64 at') ∧ w'.cell? ⟨w.heap.size, 3, none⟩ = some (.bool af) ∧ w'.cell? ⟨w.heap.size + 1, 0, none⟩ = some (.int .i64 bx) ∧ w'.cell? ⟨w.heap.size + 1, 1, none⟩ = some (.int .i64 bY) ∧ w'.cell? ⟨w.heap.size + 1, 2, none⟩ = some (.int .i64 bt) ∧ w'.cell? ⟨w.heap.size + 1, 3, none⟩ = some (.bool bf) ∧ w'.cell? ⟨w.heap.size + 1 + 1 + 1 + 1 + 1, 0, none⟩ = some (.int .i64 jx) ∧ w'.cell? ⟨w.heap.size + 1 + 1 + 1 + 1 + 1, 1, none⟩ = some (.int .i64 jy) ∧ w'.cell? ⟨w.heap.size + 1 + 1 + 1 + 1 + 1, 2, none⟩ = some (.int .i64 jt) ∧ w'.cell? ⟨w.heap.size + 1 + 1 + 1 + 1 + 1, 3, none⟩ = some (.bool jf) ∧ w.heap.size + 1 < w.heap.size + 1 + 1 + 1 + 1 + 1 ∧ w.heap.size + 1 + 1 + 1 + 1 + 1 < w'.heap.size ∧ Kept w w') ⟨by simp [go_sem, *], by simp [go_sem, *], by simp [go_sem, *], by simp [go_sem, *], by simp [go_sem, *], by simp [go_sem, *], by simp [go_sem, *], by simp [go_sem, *], by simp [go_sem, *], by simp [go_sem, *], by simp [go_sem, *], by simp [go_sem, *], by simp +arith, by simp; omega, by (repeat (first | with_reducible exact KW1 | with_reducible apply But.drewN | with_reducible apply But.drew | with_reducible apply But.alloc | (with_reducible refine But.setNew ?_ (by simp +arith) _)))⟩ ?_
    clear hc1 hf1 k1 KW1 n0 n1
    rintro W1 ⟨c0, c1, c2, c3, c4, c5, c6, c7, r0, r1, r2, r3, hlt, hgl, hgW⟩
    generalize w.heap.size + 1 + 1 + 1 + 1 + 1 = g1 at r0 r1 r2 r3 hlt hgl ⊢
    have x0_0 : w.heap.size < W1.heap.size := by omega
    have x0_1 : w.heap.size < W1.heap.size + 1 := by omega
    have x0_2 : w.heap.size < W1.heap.size + 1 + 1 := by omega
    have x0_3 : w.heap.size < W1.heap.size + 1 + 1 + 1 := by omega
    have x0_4 : w.heap.size < W1.heap.size + 1 + 1 + 1 + 1 := by omega
    have x0_5 : w.heap.size < W1.heap.size + 1 + 1 + 1 + 1 + 1 := by omega
    have x0_6 : w.heap.size < W1.heap.size + 1 + 1 + 1 + 1 + 1 + 1 := by omega
    have x0_7 : w.heap.size < W1.heap.size + 1 + 1 + 1 + 1 + 1 + 1 + 1 := by omega
    have x1_0 : w.heap.size + 1 < W1.heap.size := by omega
    have x1_1 : w.heap.size + 1 < W1.heap.size + 1 := by omega
    have x1_2 : w.heap.size + 1 < W1.heap.size + 1 + 1 := by omega
    have x1_3 : w.heap.size + 1 < W1.heap.size + 1 + 1 + 1 := by omega
    have x1_4 : w.heap.size + 1 < W1.heap.size + 1 + 1 + 1 + 1 := by omega
    have x1_5 : w.heap.size + 1 < W1.heap.size + 1 + 1 + 1 + 1 + 1 := by omega
    have x1_6 : w.heap.size + 1 < W1.heap.size + 1 + 1 + 1 + 1 + 1 + 1 := by omega
    have x1_7 : w.heap.size + 1 < W1.heap.size + 1 + 1 + 1 + 1 + 1 + 1 + 1 := by omega
    have x2_0 : g1 < W1.heap.size := by omega
    have x2_1 : g1 < W1.heap.size + 1 := by omega
    have x2_2 : g1 < W1.heap.size + 1 + 1 := by omega
    have x2_3 : g1 < W1.heap.size + 1 + 1 + 1 := by omega
    have x2_4 : g1 < W1.heap.size + 1 + 1 + 1 + 1 := by omega
    have x2_5 : g1 < W1.heap.size + 1 + 1 + 1 + 1 + 1 := by omega
    have x2_6 : g1 < W1.heap.size + 1 + 1 + 1 + 1 + 1 + 1 := by omega
    have x2_7 : g1 < W1.heap.size + 1 + 1 + 1 + 1 + 1 + 1 + 1 := by omega
    go_region_held3 (fun w' => w'.cell? ⟨w.heap.size, 0, none⟩ = some (.int .i64 ax) ∧ w'.cell? ⟨w.heap.size, 1, none⟩ = some (.int .i64 ay) ∧ w'.cell? ⟨w.heap.size, 2, none⟩ = some (.int .i64 at') ∧ w'.cell? ⟨w.heap.size, 3, none⟩ = some (.bool af) ∧ w'.cell? ⟨w.heap.size + 1, 0, none⟩ = some (.int .i64 bx) ∧ w'.cell? ⟨w.heap.size + 1, 1, none⟩ = some (.int .i64 bY) ∧ w'.cell? ⟨w.heap.size + 1, 2, none⟩ = some (.int .i64 bt) ∧ w'.cell? ⟨w.heap.size + 1, 3, none⟩ = some (.bool bf) ∧ w'.cell? ⟨g1, 0, none⟩ = some (.int .i64 jx) ∧ w'.cell? ⟨g1, 1, none⟩ = some (.int .i64 jy) ∧ w'.cell? ⟨g1, 2, none⟩ = some (.int .i64 jt) ∧ w'.cell? ⟨g1, 3, none⟩ = some (.bool jf)) (simp [go_sem, *])
      (first | (go_at_call 28; refine (toSpotX _ _ _ _ _).mono ?_; rintro e w' ⟨rfl, rfl⟩)
             | (go_at_call 15; refine (HI.out _).mono ?_; rintro e w2 ⟨rfl, k2⟩; have hc2 := k2.cell_eq; have hf2 := k2.frozen_eq; have hz2 := k2.size; simp at hz2; have q0 : w.heap.size < w2.heap.size := (by omega); have q1 : w.heap.size + 1 < w2.heap.size := (by omega); have q2 : g1 < w2.heap.size := (by omega); have KW2 : Kept w w2 := (But.trans (by (repeat (first | with_reducible exact hgW | with_reducible apply But.drewN | with_reducible apply But.drew | with_reducible apply But.alloc | (with_reducible refine But.setNew ?_ (by simp; try omega) _)))) k2); (try have y0 : (w2.cell? ⟨W1.heap.size, 0, none⟩).isSome = true := (by rw [hc2 _ _ (by simp +arith)]; simp [go_sem])); (try have y1 : (w2.cell? ⟨W1.heap.size, 1, none⟩).isSome = true := (by rw [hc2 _ _ (by simp +arith)]; simp [go_sem])); (try have y2 : (w2.cell? ⟨W1.heap.size, 2, none⟩).isSome = true := (by rw [hc2 _ _ (by simp +arith)]; simp [go_sem])); (try have y3 : (w2.cell? ⟨W1.heap.size, 3, none⟩).isSome = true := (by rw [hc2 _ _ (by simp +arith)]; simp [go_sem]))))
    all_goals
      repeat (first | go_values | go_skip | go_guarded | go_step | go_upon)
      go_at_call 26
      refine (eqSpot _ _ _ _ _).mono ?_
      rintro e w3 ⟨rfl, k3⟩
      dsimp only
      go_wp2
      go_ret
      refine ⟨rfl, But.trans ?_ k3⟩
      (repeat (first | with_reducible exact KW2 | with_reducible apply But.drewN | with_reducible apply But.drew | with_reducible apply But.alloc | (with_reducible refine But.setNew ?_ (by simp; try omega) _)))
  · refine forget (fun w' => w'.cell? ⟨w.heap.size, 0, none⟩ = some (.int .i64 ax) ∧ w'.cell? ⟨w.heap.size, 1, none⟩ = some (.int .i64 ay) ∧ w'.cell? ⟨w.heap.size, 2, none⟩ = some (.int .i64 at') ∧ w'.cell? ⟨w.heap.size, 3, none⟩ = some (.bool af) ∧ w'.cell? ⟨w.heap.size + 1, 0, none⟩ = some (.int .i64 bx) ∧ w'.cell? ⟨w.heap.size + 1, 1, none⟩ = some (.int .i64 bY) ∧ w'.cell? ⟨w.heap.size + 1, 2, none⟩ = some (.int .i64 bt) ∧ w'.cell? ⟨w.heap.size + 1, 3, none⟩ = some (.bool bf) ∧ w'.cell? ⟨w.heap.size + 1 + 1, 0, none⟩ = some (.int .i64 jx) ∧ w'.cell? ⟨w.heap.size + 1 + 1, 1, none⟩ = some (.int .i64 jy) ∧ w'.cell? ⟨w.heap.size + 1 + 1, 2, none⟩ = some (.int .i64 jt) ∧ w'.cell? ⟨w.heap.size + 1 + 1, 3, none⟩ = some (.bool jf) ∧ w.heap.size + 1 < w.heap.size + 1 + 1 ∧ w.heap.size + 1 + 1 < w'.heap.size ∧ Kept w w') ⟨by simp [go_sem, *], by simp [go_sem, *], by simp [go_sem, *], by simp [go_sem, *], by simp [go_sem, *], by simp [go_sem, *], by simp [go_sem, *], by simp [go_sem, *], by simp [go_sem, *], by simp [go_sem, *], by simp [go_sem, *], by simp [go_sem, *], by simp +arith, by simp; omega, by (repeat (first | with_reducible exact KW1 | with_reducible apply But.drewN | with_reducible apply But.drew | with_reducible apply But.alloc | (with_reducible refine But.setNew ?_ (by simp +arith) _)))⟩ ?_
    clear hc1 hf1 k1 KW1 n0 n1
    rintro W1 ⟨c0, c1, c2, c3, c4, c5, c6, c7, r0, r1, r2, r3, hlt, hgl, hgW⟩
    generalize w.heap.size + 1 + 1 = g1 at r0 r1 r2 r3 hlt hgl ⊢
    have x0_0 : w.heap.size < W1.heap.size := by omega
    have x0_1 : w.heap.size < W1.heap.size + 1 := by omega
    have x0_2 : w.heap.size < W1.heap.size + 1 + 1 := by omega
    have x0_3 : w.heap.size < W1.heap.size + 1 + 1 + 1 := by omega
    have x0_4 : w.heap.size < W1.heap.size + 1 + 1 + 1 + 1 := by omega
    have x0_5 : w.heap.size < W1.heap.size + 1 + 1 + 1 + 1 + 1 := by omega
    have x0_6 : w.heap.size < W1.heap.size + 1 + 1 + 1 + 1 + 1 + 1 := by omega
    have x0_7 : w.heap.size < W1.heap.size + 1 + 1 + 1 + 1 + 1 + 1 + 1 := by omega
    have x1_0 : w.heap.size + 1 < W1.heap.size := by omega
    have x1_1 : w.heap.size + 1 < W1.heap.size + 1 := by omega
    have x1_2 : w.heap.size + 1 < W1.heap.size + 1 + 1 := by omega
    have x1_3 : w.heap.size + 1 < W1.heap.size + 1 + 1 + 1 := by omega
    have x1_4 : w.heap.size + 1 < W1.heap.size + 1 + 1 + 1 + 1 := by omega
    have x1_5 : w.heap.size + 1 < W1.heap.size + 1 + 1 + 1 + 1 + 1 := by omega
    have x1_6 : w.heap.size + 1 < W1.heap.size + 1 + 1 + 1 + 1 + 1 + 1 := by omega
    have x1_7 : w.heap.size + 1 < W1.heap.size + 1 + 1 + 1 + 1 + 1 + 1 + 1 := by omega
    have x2_0 : g1 < W1.heap.size := by omega
    have x2_1 : g1 < W1.heap.size + 1 := by omega
    have x2_2 : g1 < W1.heap.size + 1 + 1 := by omega
    have x2_3 : g1 < W1.heap.size + 1 + 1 + 1 := by omega
    have x2_4 : g1 < W1.heap.size + 1 + 1 + 1 + 1 := by omega
    have x2_5 : g1 < W1.heap.size + 1 + 1 + 1 + 1 + 1 := by omega
    have x2_6 : g1 < W1.heap.size + 1 + 1 + 1 + 1 + 1 + 1 := by omega
    have x2_7 : g1 < W1.heap.size + 1 + 1 + 1 + 1 + 1 + 1 + 1 := by omega
    go_region_held3 (fun w' => w'.cell? ⟨w.heap.size, 0, none⟩ = some (.int .i64 ax) ∧ w'.cell? ⟨w.heap.size, 1, none⟩ = some (.int .i64 ay) ∧ w'.cell? ⟨w.heap.size, 2, none⟩ = some (.int .i64 at') ∧ w'.cell? ⟨w.heap.size, 3, none⟩ = some (.bool af) ∧ w'.cell? ⟨w.heap.size + 1, 0, none⟩ = some (.int .i64 bx) ∧ w'.cell? ⟨w.heap.size + 1, 1, none⟩ = some (.int .i64 bY) ∧ w'.cell? ⟨w.heap.size + 1, 2, none⟩ = some (.int .i64 bt) ∧ w'.cell? ⟨w.heap.size + 1, 3, none⟩ = some (.bool bf) ∧ w'.cell? ⟨g1, 0, none⟩ = some (.int .i64 jx) ∧ w'.cell? ⟨g1, 1, none⟩ = some (.int .i64 jy) ∧ w'.cell? ⟨g1, 2, none⟩ = some (.int .i64 jt) ∧ w'.cell? ⟨g1, 3, none⟩ = some (.bool jf)) (simp [go_sem, *])
      (first | (go_at_call 28; refine (toSpotX _ _ _ _ _).mono ?_; rintro e w' ⟨rfl, rfl⟩)
             | (go_at_call 15; refine (HI.out _).mono ?_; rintro e w2 ⟨rfl, k2⟩; have hc2 := k2.cell_eq; have hf2 := k2.frozen_eq; have hz2 := k2.size; simp at hz2; have q0 : w.heap.size < w2.heap.size := (by omega); have q1 : w.heap.size + 1 < w2.heap.size := (by omega); have q2 : g1 < w2.heap.size := (by omega); have KW2 : Kept w w2 := (But.trans (by (repeat (first | with_reducible exact hgW | with_reducible apply But.drewN | with_reducible apply But.drew | with_reducible apply But.alloc | (with_reducible refine But.setNew ?_ (by simp; try omega) _)))) k2); (try have y0 : (w2.cell? ⟨W1.heap.size, 0, none⟩).isSome = true := (by rw [hc2 _ _ (by simp +arith)]; simp [go_sem])); (try have y1 : (w2.cell? ⟨W1.heap.size, 1, none⟩).isSome = true := (by rw [hc2 _ _ (by simp +arith)]; simp [go_sem])); (try have y2 : (w2.cell? ⟨W1.heap.size, 2, none⟩).isSome = true := (by rw [hc2 _ _ (by simp +arith)]; simp [go_sem])); (try have y3 : (w2.cell? ⟨W1.heap.size, 3, none⟩).isSome = true := (by rw [hc2 _ _ (by simp +arith)]; simp [go_sem]))))
    all_goals
      repeat (first | go_values | go_skip | go_guarded | go_step | go_upon)
      go_at_call 26
      refine (eqSpot _ _ _ _ _).mono ?_
      rintro e w3 ⟨rfl, k3⟩
      dsimp only
      go_wp2
      go_ret
      refine ⟨rfl, But.trans ?_ k3⟩
      (repeat (first | with_reducible exact KW2 | with_reducible apply But.drewN | with_reducible apply But.drew | with_reducible apply But.alloc | (with_reducible refine But.setNew ?_ (by simp; try omega) _)))

theorem all (a b : SpotD) (w : World) : Calls Try.prog 6 #[.agg (spotC a).toArray, .agg (spotC b).toArray] w fun e w' => e = .returned (.bool true) ∧ Kept w w' := walk _ _ _ _ _ _ _ _ w


set_option maxRecDepth 100000 in
theorem lifted (os : Os) (started : os.Started) (H : Type) (enc : TypeId × Value → H) :
    ReturnsInHanded {} Try.checked os 6 .any (Rows.fnExactJoinSpotsSpec.pre6 enc Try.prog Try.f6 Rows.fnExactJoinSpotsRow.domain false) (Rows.fnExactJoinSpotsSpec.post enc Try.prog Try.f6 false true false false) := by
  refine returnsInHanded_of_change (C := Try.checked) own started (by kernel_rfl) Try.func6
    (ChangeSpec.witness6 (enc := enc) (C := Try.checked) false ⟨#[], #[.agg #[.int .i64 0, .int .i64 0, .int .i64 0, .bool false], .agg #[.int .i64 0, .int .i64 0, .int .i64 0, .bool false]], []⟩ 8 (by kernel_rfl) (by kernel_rfl) (by kernel_rfl) (by kernel_rfl)) ?_
  intro W base args ds gs before hval0 hW hcnd _
  have hval : ∀ (j : Nat) t v, Try.f6.params[j]? = some t → args[j]? = some v → Value.okWide Try.prog W .any base t v := hval0
  have hW' := hW
  obtain ⟨p, q, hA0, hV, rfl, hfz, hnd⟩ := hW
  have hA : DataW.TrodAll enc Try.prog W 0 (fun _ => true) true Try.f6.params.toList args.toList ds p := hA0
  rw [Try.params6] at hA hval
  obtain ⟨v0, vs0, d0, ds0, p0, q0, hargs, rfl, rfl, h0, r0⟩ := trodAll_cons hA
  obtain ⟨v1, vs1, d1, ds1, p1, q1, rfl, rfl, rfl, h1, r1⟩ := trodAll_cons r0
  obtain ⟨rfl, rfl, rfl⟩ := trodAll_nil r1
  obtain rfl : args = #[v0, v1] := by cases args; simp_all
  obtain ⟨rfl, rfl⟩ := trodVars_none hV
  obtain ⟨a0, e0⟩ := open_spotV (hval 0 46 v0 rfl rfl) h0
  subst e0
  obtain ⟨a1, e1⟩ := open_spotV (hval 1 46 v1 rfl rfl) h1
  subst e1
  clear hA0 hval0
  simp only [List.append_nil] at hW'
  refine (all a0 a1 W).mono fun e W' ⟨he, hg⟩ => ?_
  subst he
  exact ⟨_, rfl, post_of_kept (pa := _) (pv := []) hW' (fun _ _ _ => (trodAll_cons_mk (shut_bool Try.underlying4 _) trodAll_mk0)) (fun sp hsp => (trodAll_cons_mk (kept_trod (by kernel_rfl) (of_decide_eq_true (by kernel_rfl)) h0 hg (fun x hx => hW'.lt x (by simp [hx])) (fun x hx => hsp x (by simp [hx]))) (trodAll_cons_mk (kept_trod (by kernel_rfl) (of_decide_eq_true (by kernel_rfl)) h1 hg (fun x hx => hW'.lt x (by simp [hx])) (fun x hx => hsp x (by simp [hx]))) trodAll_mk0))) (fun _ _ => rfl) hg⟩

theorem over : Rows.fnExactJoinSpotsRow.holds Try.pinned (OpenSpec.ofChange Rows.fnExactJoinSpotsSpec) :=
  OpenClaim.holds_of_wide 6 Try.f6 rfl rfl rfl rfl rfl rfl rfl ⟨rfl, rfl, rfl, rfl, rfl⟩ rfl rfl rfl rfl rfl (by kernel_rfl) Try.func6 (by kernel_rfl)
    (of_decide_eq_true (by kernel_rfl)) (by unfold Func.isWrapper; first | (rw [if_pos (by decide +kernel)]; kernel_rfl) | (rw [if_neg (by decide +kernel)]; exact ⟨rfl, rfl⟩))
    (fun os started H enc _ => lifted os started H enc)

theorem proved : Rows.FnExactJoinSpotsSaid :=
  over
#print axioms proved
end Go.Proofs.Ytcljppnakmeldaa.fnExactJoinSpots
