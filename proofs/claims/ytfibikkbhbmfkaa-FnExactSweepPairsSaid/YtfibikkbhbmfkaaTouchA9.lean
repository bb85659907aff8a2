/-
  Touch, as the specification says it.
-/
import Derived.Test.YtfibikkbhbmfkaaTouch9
namespace Go.Proofs.Ytfibikkbhbmfkaa
open Go.ChangeShapes Go.WideShapes Go.ChangeAt Go.RowKit

def TouchA (p q : ShapeD) : Prop := ShapeP p ∧ ShapeP q ∧ TouchP p q
instance (p q : ShapeD) : Decidable (TouchA p q) := inferInstanceAs (Decidable (_ ∧ _))
theorem stouch (k x y a b m u v c e : Int) (w : World) : Calls Try.prog 17 #[.agg #[.int .i64 k, .int .i64 x, .int .i64 y, .int .i64 a, .int .i64 b], .agg #[.int .i64 m, .int .i64 u, .int .i64 v, .int .i64 c, .int .i64 e]] w fun e' w' => e' = .returned (.bool (decide (TouchA (k, x, y, a, b) (m, u, v, c, e)))) ∧ Kept w w' := by
  rcases (Decidable.em (ShapeP (k, x, y, a, b))).symm with h | h
  · have d : decide (ShapeP (k, x, y, a, b)) = false := decide_eq_false h
    go_enter Try.func17, Try.ntmps17
    repeat (first | go_values | go_skip | go_guarded | go_step | go_upon)
    (go_at_call 10; refine (sgood _ _ _ _ _ _).mono ?_; rw [d]; rintro e w1 ⟨rfl, k1⟩; have hck1 := Kept.cell_eq k1; have hfk1 := Kept.frozen_eq k1; have hzk1 := k1.size; (try simp at hzk1); have nk1 : w.heap.size < w1.heap.size := (by omega); have Kk1 : Kept w w1 := (But.trans (by (repeat (first | with_reducible exact But.refl _ _ _ | with_reducible apply But.drewN | with_reducible apply But.drew | with_reducible apply But.alloc))) k1); have ok1 : w.heap.size + 1 < w1.heap.size := (by omega); clear k1; dsimp only)
    repeat (first | go_values | go_skip | go_guarded | go_step | go_upon)
    go_ret
    exact ⟨ret_boolG (decide_eq_false (fun hh => h hh.1)).symm, by (repeat (first | with_reducible exact Kk1 | with_reducible apply But.drewN | with_reducible apply But.drew | with_reducible apply But.alloc))⟩
  have d : decide (ShapeP (k, x, y, a, b)) = true := decide_eq_true h
  have HPA : Hid (ShapeP (k, x, y, a, b)) := h
  rcases (Decidable.em (ShapeP (m, u, v, c, e))).symm with g | g
  · have d2 : decide (ShapeP (m, u, v, c, e)) = false := decide_eq_false g
    go_enter Try.func17, Try.ntmps17
    repeat (first | go_values | go_skip | go_guarded | go_step | go_upon)
    (go_at_call 10; refine (sgood _ _ _ _ _ _).mono ?_; rw [d]; rintro e w1 ⟨rfl, k1⟩; have hck1 := Kept.cell_eq k1; have hfk1 := Kept.frozen_eq k1; have hzk1 := k1.size; (try simp at hzk1); have nk1 : w.heap.size < w1.heap.size := (by omega); have Kk1 : Kept w w1 := (But.trans (by (repeat (first | with_reducible exact But.refl _ _ _ | with_reducible apply But.drewN | with_reducible apply But.drew | with_reducible apply But.alloc))) k1); have ok1 : w.heap.size + 1 < w1.heap.size := (by omega); clear k1; dsimp only)
    repeat (first | go_values | go_skip | go_guarded | go_step | go_upon)
    (go_at_call 10; refine (sgood _ _ _ _ _ _).mono ?_; rw [d2]; rintro e w2 ⟨rfl, k2⟩; have hck2 := Kept.cell_eq k2; have hfk2 := Kept.frozen_eq k2; have hzk2 := k2.size; (try simp at hzk2); have nk2 : w.heap.size < w2.heap.size := (by omega); have Kk2 : Kept w w2 := (But.trans (by (repeat (first | with_reducible exact Kk1 | with_reducible apply But.drewN | with_reducible apply But.drew | with_reducible apply But.alloc))) k2); have ok2 : w.heap.size + 1 < w2.heap.size := (by omega); clear k2; dsimp only)
    repeat (first | go_values | go_skip | go_guarded | go_step | go_upon)
    go_ret
    exact ⟨ret_boolG (decide_eq_false (fun hh => g hh.2.1)).symm, by (repeat (first | with_reducible exact Kk2 | with_reducible apply But.drewN | with_reducible apply But.drew | with_reducible apply But.alloc))⟩
  have d2 : decide (ShapeP (m, u, v, c, e)) = true := decide_eq_true g
  have HPB : Hid (ShapeP (m, u, v, c, e)) := g
  have key : decide (TouchA (k, x, y, a, b) (m, u, v, c, e)) = decide (TouchP (k, x, y, a, b) (m, u, v, c, e)) := by
    rw [Bool.eq_iff_iff, decide_eq_true_iff, decide_eq_true_iff]
    exact ⟨fun h => h.2.2, fun t => ⟨h, g, t⟩⟩
  rw [key]
  go_enter Try.func17, Try.ntmps17
  repeat (first | go_values | go_skip | go_guarded | go_step | go_upon)
  (go_at_call 10; refine (sgood _ _ _ _ _ _).mono ?_; rw [d]; rintro e w1 ⟨rfl, k1⟩; have hck1 := Kept.cell_eq k1; have hfk1 := Kept.frozen_eq k1; have hzk1 := k1.size; (try simp at hzk1); have nk1 : w.heap.size < w1.heap.size := (by omega); have Kk1 : Kept w w1 := (But.trans (by (repeat (first | with_reducible exact But.refl _ _ _ | with_reducible apply But.drewN | with_reducible apply But.drew | with_reducible apply But.alloc))) k1); have ok1 : w.heap.size + 1 < w1.heap.size := (by omega); clear k1; dsimp only)
  repeat (first | go_values | go_skip | go_guarded | go_step | go_upon)
  (go_at_call 10; refine (sgood _ _ _ _ _ _).mono ?_; rw [d2]; rintro e w2 ⟨rfl, k2⟩; have hck2 := Kept.cell_eq k2; have hfk2 := Kept.frozen_eq k2; have hzk2 := k2.size; (try simp at hzk2); have nk2 : w.heap.size < w2.heap.size := (by omega); have Kk2 : Kept w w2 := (But.trans (by (repeat (first | with_reducible exact Kk1 | with_reducible apply But.drewN | with_reducible apply But.drew | with_reducible apply But.alloc))) k2); have ok2 : w.heap.size + 1 < w2.heap.size := (by omega); clear k2; dsimp only)
  repeat (first | go_values | go_skip | go_guarded | go_step | go_upon)
  (go_at_call 39; refine (stouch0 _ _ _ _ _ _ _ _ _ _ _ HPA.out HPB.out).mono ?_; rintro e w3 ⟨rfl, k3⟩; have hck3 := Kept.cell_eq k3; have hfk3 := Kept.frozen_eq k3; have hzk3 := k3.size; (try simp at hzk3); have nk3 : w.heap.size < w3.heap.size := (by omega); have Kk3 : Kept w w3 := (But.trans (by (repeat (first | with_reducible exact Kk2 | with_reducible apply But.drewN | with_reducible apply But.drew | with_reducible apply But.alloc))) k3); have ok3 : w.heap.size + 1 < w3.heap.size := (by omega); clear k3; dsimp only)
  repeat (first | go_values | go_skip | go_guarded | go_step | go_upon)
  go_ret
  exact ⟨ret_boolG rfl, by (repeat (first | with_reducible exact Kk3 | with_reducible apply But.drewN | with_reducible apply But.drew | with_reducible apply But.alloc))⟩

end Go.Proofs.Ytfibikkbhbmfkaa
