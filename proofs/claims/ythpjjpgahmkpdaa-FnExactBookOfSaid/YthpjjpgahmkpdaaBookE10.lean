/-
  A body's energy in parts, as the program says it.
-/
import Derived.Test.YthpjjpgahmkpdaaBookM10
import Derived.Test.YthpjjpgahmkpdaaRows10
namespace Go.Proofs.Ythpjjpgahmkpdaa
open Go.ChangeShapes Go.WideShapes Go.ChangeAt Go.RowKit

set_option maxRecDepth 100000
set_option linter.unusedVariables false
set_option linter.unusedSimpArgs false

theorem en_math {p m : Int} (hp : -1000000 ≤ p ∧ p ≤ 1000000) (hm : 0 < m ∧ m ≤ 12) : ((p.natAbs * p.natAbs * (55440 / (2 * m.toNat)) : Nat) : Int) = p * p * (55440 / (2 * m)) ∧ (0 ≤ p * p ∧ p * p ≤ 1000000000000) ∧ (0 ≤ 55440 / (2 * m) ∧ 55440 / (2 * m) ≤ 27720) ∧ (0 ≤ p * p * (55440 / (2 * m)) ∧ p * p * (55440 / (2 * m)) ≤ 1000000000000 * 27720) := by
  have e1 : p * p = ((p.natAbs * p.natAbs : Nat) : Int) := by rw [Int.natCast_mul]; exact (Int.natAbs_mul_self' p).symm
  have e2 : 55440 / (2 * m) = ((55440 / (2 * m.toNat) : Nat) : Int) := by
    rw [Int.natCast_ediv, show ((2 * m.toNat : Nat) : Int) = 2 * m by omega]; rfl
  have h1 : p.natAbs * p.natAbs ≤ 1000000 * 1000000 := Nat.mul_le_mul (by omega) (by omega)
  have h2 : 55440 / (2 * m.toNat) ≤ 27720 := Nat.le_trans (Nat.div_le_div_left (Nat.mul_le_mul_left 2 (show 1 ≤ m.toNat by omega)) (by decide)) (by decide)
  have h3 := Nat.mul_le_mul h1 h2
  rw [e1, e2, ← Int.natCast_mul]
  generalize p.natAbs * p.natAbs = E at *
  generalize 55440 / (2 * m.toNat) = Q at *
  have h4 : 0 ≤ ((E * Q : Nat) : Int) := by omega
  refine ⟨rfl, ?_, ?_, ?_⟩ <;> omega
set_option maxHeartbeats 2000000 in
theorem ienergy (x p m : Int) (w : World) (hp : -1000000 ≤ p ∧ p ≤ 1000000) (hm : 0 ≤ m ∧ m ≤ 12) : Calls Try.prog 60 #[.agg #[.int .i64 x, .int .i64 p, .int .i64 m]] w fun e w' => e = .returned (.int .i64 (partOf (x, p, m, 0) : Int)) ∧ Kept w w' := by
  by_cases h : m = 0
  · subst h
    go_enter Try.func60, Try.ntmps60
    repeat (first | (go_at_call 89; refine (iwall _ _ _ _).mono ?_; rintro e w1 ⟨rfl, k1⟩; have hck1 := Kept.cell_eq k1; have hfk1 := Kept.frozen_eq k1; have hzk1 := k1.size; (try simp at hzk1); have nk1 : w.heap.size < w1.heap.size := (by omega); have Kk1 : Kept w w1 := (But.trans (by (repeat (first | with_reducible exact But.refl _ _ _ | with_reducible apply But.drewN | with_reducible apply But.drew | with_reducible apply But.alloc | (with_reducible refine But.setNew ?_ (by simp +arith) _)))) k1); clear k1; dsimp only) | go_values | go_skip | go_guarded | go_step | go_upon)
    go_ret
    exact ⟨by simp [partOf], by (repeat (first | with_reducible exact Kk1 | with_reducible apply But.drewN | with_reducible apply But.drew | with_reducible apply But.alloc | (with_reducible refine But.setNew ?_ (by simp +arith) _)))⟩
  · obtain ⟨e1, e2, e3, e4⟩ := en_math hp ⟨show 0 < m by omega, hm.2⟩
    have c0 : (m == 0) = false := by simpa using h
    have ep : (partOf (x, p, m, 0) : Int) = p * p * (55440 / (2 * m)) := by rw [partOf, if_neg h]; exact e1
    rw [ep]
    have i1 : IntKind.i64.wrap (p * p) = p * p := IntWalk.i64_in _ (by omega)
    have i2 : IntKind.i64.wrap (2 * m) = 2 * m := IntWalk.i64_in _ (by omega)
    have i3 : IntKind.i64.wrap (55440 / (2 * m)) = 55440 / (2 * m) := IntWalk.i64_in _ (by omega)
    have i4 : IntKind.i64.wrap (p * p * (55440 / (2 * m))) = p * p * (55440 / (2 * m)) := IntWalk.i64_in _ (by omega)
    have i5 : (2 * m == 0) = false := by simp; omega
    have i6 : (55440 : Int).tdiv (2 * m) = 55440 / (2 * m) := Int.tdiv_eq_ediv_of_nonneg (by decide)
    have i7 : ¬ (2 * m = 0) := by omega
    have i8 : 0 < 2 * m := by omega
    go_enter Try.func60, Try.ntmps60
    repeat (first | (go_at_call 89; refine (iwall _ _ _ _).mono ?_; rw [c0]; rintro e w1 ⟨rfl, k1⟩; have hck1 := Kept.cell_eq k1; have hfk1 := Kept.frozen_eq k1; have hzk1 := k1.size; (try simp at hzk1); have nk1 : w.heap.size < w1.heap.size := (by omega); have Kk1 : Kept w w1 := (But.trans (by (repeat (first | with_reducible exact But.refl _ _ _ | with_reducible apply But.drewN | with_reducible apply But.drew | with_reducible apply But.alloc | (with_reducible refine But.setNew ?_ (by simp +arith) _)))) k1); clear k1; dsimp only) | go_values | go_skip | go_guarded | go_step | go_upon)
    try go_quiet (fail)
    repeat (first | go_values | go_skip | go_guarded | go_step | go_upon)
    go_ret
    exact ⟨rfl, by (repeat (first | with_reducible exact Kk1 | with_reducible apply But.drewN | with_reducible apply But.drew | with_reducible apply But.alloc | (with_reducible refine But.setNew ?_ (by simp +arith) _)))⟩

end Go.Proofs.Ythpjjpgahmkpdaa
