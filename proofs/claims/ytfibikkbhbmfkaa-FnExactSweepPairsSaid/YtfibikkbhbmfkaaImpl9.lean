/-
  Whether two shapes touch, in the program.
-/
import Derived.Test.YtfibikkbhbmfkaaFigC9
namespace Go.Proofs.Ytfibikkbhbmfkaa
open Go.ChangeShapes Go.WideShapes Go.ChangeAt Go.RowKit

set_option maxRecDepth 100000
set_option linter.unusedVariables false
set_option linter.unusedSimpArgs false

set_option maxHeartbeats 4000000 in
theorem itouch (k x y a b m u v c e : Int) (w : World) : Calls Try.prog 18 #[.agg #[.int .i64 k, .int .i64 x, .int .i64 y, .int .i64 a, .int .i64 b], .agg #[.int .i64 m, .int .i64 u, .int .i64 v, .int .i64 c, .int .i64 e]] w fun e' w' => e' = .returned (.bool (decide (TouchA (k, x, y, a, b) (m, u, v, c, e)))) ∧ Kept w w' := by
  by_cases h : ShapeP (k, x, y, a, b)
  · have h1 := figR_yes h
    by_cases g : ShapeP (m, u, v, c, e)
    · have h2 := figR_yes g
      have key : decide (TouchA (k, x, y, a, b) (m, u, v, c, e)) = decide (TouchP (k, x, y, a, b) (m, u, v, c, e)) := by
        rw [Bool.eq_iff_iff, decide_eq_true_iff, decide_eq_true_iff]
        exact ⟨fun t => t.2.2, fun t => ⟨h, g, t⟩⟩
      rw [key]
      have ht := fun W => touching _ _ W h g
      generalize figV (k, x, y, a, b) = F at *
      generalize figV (m, u, v, c, e) = F2 at *
      have HT : Hid _ := ht
      clear ht h g
      go_enter Try.func18, Try.ntmps18
      repeat (first | go_values | go_skip | go_guarded | go_step | go_upon)
      (go_at_call 36; refine (figureOf _ _ _ _ _ _).mono ?_; rw [h1]; rintro e w1 ⟨rfl, k1⟩; have hck1 := Kept.cell_eq k1; have hfk1 := Kept.frozen_eq k1; have hzk1 := k1.size; (try simp at hzk1); have nk1 : w.heap.size < w1.heap.size := (by omega); have Kk1 : Kept w w1 := (But.trans (by (repeat (first | with_reducible exact But.refl _ _ _ | with_reducible apply But.drewN | with_reducible apply But.drew | with_reducible apply But.alloc))) k1); have ok1 : w.heap.size + 1 < w1.heap.size := (by omega); clear k1; dsimp only)
      repeat (first | go_values | go_skip | go_guarded | go_step | go_upon)
      (go_at_call 36; refine (figureOf _ _ _ _ _ _).mono ?_; rw [h2]; rintro e w2 ⟨rfl, k2⟩; have hck2 := Kept.cell_eq k2; have hfk2 := Kept.frozen_eq k2; have hzk2 := k2.size; (try simp at hzk2); have nk2 : w.heap.size < w2.heap.size := (by omega); have Kk2 : Kept w w2 := (But.trans (by (repeat (first | with_reducible exact Kk1 | with_reducible apply But.drewN | with_reducible apply But.drew | with_reducible apply But.alloc))) k2); have ok2 : w.heap.size + 1 < w2.heap.size := (by omega); clear k2; dsimp only)
      repeat (first | go_values | go_skip | go_guarded | go_step | go_upon)
      (go_at_call 40; refine (HT.out _).mono ?_; rintro e w3 ⟨rfl, k3⟩; have hck3 := Kept.cell_eq k3; have hfk3 := Kept.frozen_eq k3; have hzk3 := k3.size; (try simp at hzk3); have nk3 : w.heap.size < w3.heap.size := (by omega); have Kk3 : Kept w w3 := (But.trans (by (repeat (first | with_reducible exact Kk2 | with_reducible apply But.drewN | with_reducible apply But.drew | with_reducible apply But.alloc))) k3); have ok3 : w.heap.size + 1 < w3.heap.size := (by omega); clear k3; dsimp only)
      repeat (first | go_values | go_skip | go_guarded | go_step | go_upon)
      go_ret
      exact ⟨rfl, by (repeat (first | with_reducible exact Kk3 | with_reducible apply But.drewN | with_reducible apply But.drew | with_reducible apply But.alloc))⟩
    · have h2 := figR_no g
      have key : decide (TouchA (k, x, y, a, b) (m, u, v, c, e)) = false := decide_eq_false fun t => g t.2.1
      rw [key]
      generalize figV (k, x, y, a, b) = F at *
      clear h g
      go_enter Try.func18, Try.ntmps18
      repeat (first | go_values | go_skip | go_guarded | go_step | go_upon)
      (go_at_call 36; refine (figureOf _ _ _ _ _ _).mono ?_; rw [h1]; rintro e w1 ⟨rfl, k1⟩; have hck1 := Kept.cell_eq k1; have hfk1 := Kept.frozen_eq k1; have hzk1 := k1.size; (try simp at hzk1); have nk1 : w.heap.size < w1.heap.size := (by omega); have Kk1 : Kept w w1 := (But.trans (by (repeat (first | with_reducible exact But.refl _ _ _ | with_reducible apply But.drewN | with_reducible apply But.drew | with_reducible apply But.alloc))) k1); have ok1 : w.heap.size + 1 < w1.heap.size := (by omega); clear k1; dsimp only)
      repeat (first | go_values | go_skip | go_guarded | go_step | go_upon)
      (go_at_call 36; refine (figureOf _ _ _ _ _ _).mono ?_; rw [h2]; rintro e w2 ⟨rfl, k2⟩; have hck2 := Kept.cell_eq k2; have hfk2 := Kept.frozen_eq k2; have hzk2 := k2.size; (try simp at hzk2); have nk2 : w.heap.size < w2.heap.size := (by omega); have Kk2 : Kept w w2 := (But.trans (by (repeat (first | with_reducible exact Kk1 | with_reducible apply But.drewN | with_reducible apply But.drew | with_reducible apply But.alloc))) k2); have ok2 : w.heap.size + 1 < w2.heap.size := (by omega); clear k2; dsimp only)
      repeat (first | go_values | go_skip | go_guarded | go_step | go_upon)
      go_ret
      exact ⟨rfl, by (repeat (first | with_reducible exact Kk2 | with_reducible apply But.drewN | with_reducible apply But.drew | with_reducible apply But.alloc))⟩
  · have h1 := figR_no h
    have key : decide (TouchA (k, x, y, a, b) (m, u, v, c, e)) = false := decide_eq_false fun t => h t.1
    rw [key]
    clear h
    go_enter Try.func18, Try.ntmps18
    repeat (first | go_values | go_skip | go_guarded | go_step | go_upon)
    (go_at_call 36; refine (figureOf _ _ _ _ _ _).mono ?_; rw [h1]; rintro e w1 ⟨rfl, k1⟩; have hck1 := Kept.cell_eq k1; have hfk1 := Kept.frozen_eq k1; have hzk1 := k1.size; (try simp at hzk1); have nk1 : w.heap.size < w1.heap.size := (by omega); have Kk1 : Kept w w1 := (But.trans (by (repeat (first | with_reducible exact But.refl _ _ _ | with_reducible apply But.drewN | with_reducible apply But.drew | with_reducible apply But.alloc))) k1); have ok1 : w.heap.size + 1 < w1.heap.size := (by omega); clear k1; dsimp only)
    repeat (first | go_values | go_skip | go_guarded | go_step | go_upon)
    go_ret
    exact ⟨rfl, by (repeat (first | with_reducible exact Kk1 | with_reducible apply But.drewN | with_reducible apply But.drew | with_reducible apply But.alloc))⟩

end Go.Proofs.Ytfibikkbhbmfkaa
