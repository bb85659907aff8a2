/-
  Where a body wants to be, as the program says it.
-/
import Derived.Test.YthpjjpgahmkpdaaRows10
import Derived.Test.YthpjjpgahmkpdaaMoveB10
namespace Go.Proofs.Ythpjjpgahmkpdaa
open Go.ChangeShapes Go.WideShapes Go.ChangeAt Go.RowKit

set_option maxRecDepth 100000
set_option linter.unusedVariables false
set_option linter.unusedSimpArgs false

set_option maxHeartbeats 2000000 in
theorem iwanted (x p m t : Int) (w : World) (hx : -1000000000 ≤ x ∧ x ≤ 1000000000) (hp : -1000000 ≤ p ∧ p ≤ 1000000) (ht : 0 ≤ t ∧ t ≤ 1000) : Calls Try.prog 62 #[.agg #[.int .i64 x, .int .i64 p, .int .i64 m], .int .i64 t] w fun e w' => e = .returned (.int .i64 (want t (x, p, m, 0)).1) ∧ Kept w w' := by
  by_cases hm : m = 0
  · have c0 : (m == 0) = true := by simpa using hm
    rw [show (want t (x, p, m, 0)).1 = x from if_pos hm]
    clear hm
    go_enter Try.func62, Try.ntmps62
    repeat (first | (go_at_call 89; refine (iwall _ _ _ _).mono ?_; rw [c0]; rintro e w1 ⟨rfl, k1⟩; have hck1 := Kept.cell_eq k1; have hfk1 := Kept.frozen_eq k1; have hzk1 := k1.size; (try simp at hzk1); have nk1 : w.heap.size < w1.heap.size := (by omega); have Kk1 : Kept w w1 := (But.trans (by (repeat (first | with_reducible exact But.refl _ _ _ | with_reducible apply But.drewN | with_reducible apply But.drew | with_reducible apply But.alloc | (with_reducible refine But.setNew ?_ (by simp +arith) _)))) k1); clear k1; dsimp only) | go_values | go_skip | go_guarded | go_step | go_upon)
    go_ret
    exact ⟨rfl, by (repeat (first | with_reducible exact Kk1 | with_reducible apply But.drewN | with_reducible apply But.drew | with_reducible apply But.alloc | (with_reducible refine But.setNew ?_ (by simp +arith) _)))⟩
  · have c0 : (m == 0) = false := by simpa using hm
    rw [show (want t (x, p, m, 0)).1 = x + (p * t).tdiv m from if_neg hm]
    have h1 := mulT hp ht
    have h2 := tdiv_bd (m := m) h1
    have i1 : IntKind.i64.wrap (p * t) = p * t := IntWalk.i64_in _ (by omega)
    have i2 : IntKind.i64.wrap ((p * t).tdiv m) = (p * t).tdiv m := IntWalk.i64_in _ (by omega)
    have i3 : IntKind.i64.wrap (x + (p * t).tdiv m) = x + (p * t).tdiv m := IntWalk.i64_in _ (by omega)
    go_enter Try.func62, Try.ntmps62
    repeat (first | (go_at_call 89; refine (iwall _ _ _ _).mono ?_; rw [c0]; rintro e w1 ⟨rfl, k1⟩; have hck1 := Kept.cell_eq k1; have hfk1 := Kept.frozen_eq k1; have hzk1 := k1.size; (try simp at hzk1); have nk1 : w.heap.size < w1.heap.size := (by omega); have Kk1 : Kept w w1 := (But.trans (by (repeat (first | with_reducible exact But.refl _ _ _ | with_reducible apply But.drewN | with_reducible apply But.drew | with_reducible apply But.alloc | (with_reducible refine But.setNew ?_ (by simp +arith) _)))) k1); clear k1; dsimp only) | go_values | go_skip | go_guarded | go_step | go_upon)
    try go_quiet (fail)
    repeat (first | go_values | go_skip | go_guarded | go_step | go_upon)
    go_ret
    exact ⟨rfl, by (repeat (first | with_reducible exact Kk1 | with_reducible apply But.drewN | with_reducible apply But.drew | with_reducible apply But.alloc | (with_reducible refine But.setNew ?_ (by simp +arith) _)))⟩

end Go.Proofs.Ythpjjpgahmkpdaa
