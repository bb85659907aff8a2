/-
  Whether a place lies in a shape, as the specification says it.
-/
import Derived.Test.YtfibikkbhbmfkaaBnd9
namespace Go.Proofs.Ytfibikkbhbmfkaa
open Go.ChangeShapes Go.WideShapes Go.ChangeAt Go.RowKit

def HasP (p : ShapeD) (u v : Int) : Prop := ShapeP p ∧ (bnd p).1 ≤ u ∧ u ≤ (bnd p).2.2.1 ∧ (bnd p).2.1 ≤ v ∧ v ≤ (bnd p).2.2.2 ∧ (p.1 = 1 ∨ (u - p.2.1) * (u - p.2.1) + (v - p.2.2.1) * (v - p.2.2.1) ≤ p.2.2.2.1 * p.2.2.2.1)
instance (p : ShapeD) (u v : Int) : Decidable (HasP p u v) := inferInstanceAs (Decidable (_ ∧ _))
theorem sq_bd {z m : Int} (h1 : -m ≤ z) (h2 : z ≤ m) : 0 ≤ z * z ∧ z * z ≤ m * m := by
  refine ⟨by rcases Int.le_total 0 z with h | h; exact Int.mul_nonneg h h; exact Int.mul_nonneg_of_nonpos_of_nonpos h h, ?_⟩
  have h3 : (m - z) * (m + z) ≥ 0 := Int.mul_nonneg (by omega) (by omega)
  simp only [Int.sub_mul, Int.mul_add] at h3
  have := Int.mul_comm m z
  omega
theorem shas (k x y a b u v : Int) (w : World) : Calls Try.prog 15 #[.agg #[.int .i64 k, .int .i64 x, .int .i64 y, .int .i64 a, .int .i64 b], .int .i64 u, .int .i64 v] w fun e w' => e = .returned (.bool (decide (HasP (k, x, y, a, b) u v))) ∧ Kept w w' := by
  rcases (Decidable.em (ShapeP (k, x, y, a, b))).symm with h | h
  · have d : decide (ShapeP (k, x, y, a, b)) = false := decide_eq_false h
    go_enter Try.func15, Try.ntmps15
    repeat (first | (go_at_call 10; refine (sgood _ _ _ _ _ _).mono ?_; rw [d]; rintro e w1 ⟨rfl, k1⟩; have hck1 := Kept.cell_eq k1; have hfk1 := Kept.frozen_eq k1; have hzk1 := k1.size; (try simp at hzk1); have nk1 : w.heap.size < w1.heap.size := (by omega); have Kk1 : Kept w w1 := (But.trans (by (repeat (first | with_reducible exact But.refl _ _ _ | with_reducible apply But.drewN | with_reducible apply But.drew | with_reducible apply But.alloc))) k1); clear k1; dsimp only) | go_values | go_skip | go_guarded | go_step | go_upon)
    go_ret
    exact ⟨ret_boolG (decide_eq_false (fun hh => h hh.1)).symm, by (repeat (first | with_reducible exact Kk1 | with_reducible apply But.drewN | with_reducible apply But.drew | with_reducible apply But.alloc))⟩
  have d : decide (ShapeP (k, x, y, a, b)) = true := decide_eq_true h
  have HP : Hid (ShapeP (k, x, y, a, b)) := h
  clear h
  obtain ⟨⟨q0, q1, q2, q3⟩, hq⟩ : ∃ q, bnd (k, x, y, a, b) = q := ⟨_, rfl⟩
  rcases (Decidable.em (q0 ≤ u)).symm with c0 | c0
  · have dc0 : decide (q0 ≤ u) = false := decide_eq_false c0
    have gc0 : decide (u < q0) = true := by simp; omega
    go_enter Try.func15, Try.ntmps15
    repeat (first | (go_at_call 10; refine (sgood _ _ _ _ _ _).mono ?_; rw [d]; rintro e w1 ⟨rfl, k1⟩; have hck1 := Kept.cell_eq k1; have hfk1 := Kept.frozen_eq k1; have hzk1 := k1.size; (try simp at hzk1); have nk1 : w.heap.size < w1.heap.size := (by omega); have Kk1 : Kept w w1 := (But.trans (by (repeat (first | with_reducible exact But.refl _ _ _ | with_reducible apply But.drewN | with_reducible apply But.drew | with_reducible apply But.alloc))) k1); clear k1; dsimp only) | (go_at_call 37; refine (sbnd _ _ _ _ _ _ HP.out).mono ?_; unfold Ret4; rw [hq]; rintro e w2 ⟨rfl, k2⟩; have hck2 := Kept.cell_eq k2; have hfk2 := Kept.frozen_eq k2; have hzk2 := k2.size; (try simp at hzk2); have nk2 : w.heap.size < w2.heap.size := (by omega); have Kk2 : Kept w w2 := (But.trans (by (repeat (first | with_reducible exact Kk1 | with_reducible apply But.drewN | with_reducible apply But.drew | with_reducible apply But.alloc))) k2); clear k2; dsimp only) | go_values | go_skip | go_guarded | go_step | go_upon)
    go_ret
    exact ⟨ret_boolG (decide_eq_false (fun h => c0 (by have h1 := h.2.1; rw [hq] at h1; exact h1))).symm, by (repeat (first | with_reducible exact Kk2 | with_reducible apply But.drewN | with_reducible apply But.drew | with_reducible apply But.alloc))⟩
  have gc0 : decide (u < q0) = false := by simp; omega
  rcases (Decidable.em (u ≤ q2)).symm with c2 | c2
  · have dc2 : decide (u ≤ q2) = false := decide_eq_false c2
    have gc2 : decide (q2 < u) = true := by simp; omega
    go_enter Try.func15, Try.ntmps15
    repeat (first | (go_at_call 10; refine (sgood _ _ _ _ _ _).mono ?_; rw [d]; rintro e w1 ⟨rfl, k1⟩; have hck1 := Kept.cell_eq k1; have hfk1 := Kept.frozen_eq k1; have hzk1 := k1.size; (try simp at hzk1); have nk1 : w.heap.size < w1.heap.size := (by omega); have Kk1 : Kept w w1 := (But.trans (by (repeat (first | with_reducible exact But.refl _ _ _ | with_reducible apply But.drewN | with_reducible apply But.drew | with_reducible apply But.alloc))) k1); clear k1; dsimp only) | (go_at_call 37; refine (sbnd _ _ _ _ _ _ HP.out).mono ?_; unfold Ret4; rw [hq]; rintro e w2 ⟨rfl, k2⟩; have hck2 := Kept.cell_eq k2; have hfk2 := Kept.frozen_eq k2; have hzk2 := k2.size; (try simp at hzk2); have nk2 : w.heap.size < w2.heap.size := (by omega); have Kk2 : Kept w w2 := (But.trans (by (repeat (first | with_reducible exact Kk1 | with_reducible apply But.drewN | with_reducible apply But.drew | with_reducible apply But.alloc))) k2); clear k2; dsimp only) | go_values | go_skip | go_guarded | go_step | go_upon)
    go_ret
    exact ⟨ret_boolG (decide_eq_false (fun h => c2 (by have h1 := h.2.2.1; rw [hq] at h1; exact h1))).symm, by (repeat (first | with_reducible exact Kk2 | with_reducible apply But.drewN | with_reducible apply But.drew | with_reducible apply But.alloc))⟩
  have gc2 : decide (q2 < u) = false := by simp; omega
  rcases (Decidable.em (q1 ≤ v)).symm with c1 | c1
  · have dc1 : decide (q1 ≤ v) = false := decide_eq_false c1
    have gc1 : decide (v < q1) = true := by simp; omega
    go_enter Try.func15, Try.ntmps15
    repeat (first | (go_at_call 10; refine (sgood _ _ _ _ _ _).mono ?_; rw [d]; rintro e w1 ⟨rfl, k1⟩; have hck1 := Kept.cell_eq k1; have hfk1 := Kept.frozen_eq k1; have hzk1 := k1.size; (try simp at hzk1); have nk1 : w.heap.size < w1.heap.size := (by omega); have Kk1 : Kept w w1 := (But.trans (by (repeat (first | with_reducible exact But.refl _ _ _ | with_reducible apply But.drewN | with_reducible apply But.drew | with_reducible apply But.alloc))) k1); clear k1; dsimp only) | (go_at_call 37; refine (sbnd _ _ _ _ _ _ HP.out).mono ?_; unfold Ret4; rw [hq]; rintro e w2 ⟨rfl, k2⟩; have hck2 := Kept.cell_eq k2; have hfk2 := Kept.frozen_eq k2; have hzk2 := k2.size; (try simp at hzk2); have nk2 : w.heap.size < w2.heap.size := (by omega); have Kk2 : Kept w w2 := (But.trans (by (repeat (first | with_reducible exact Kk1 | with_reducible apply But.drewN | with_reducible apply But.drew | with_reducible apply But.alloc))) k2); clear k2; dsimp only) | go_values | go_skip | go_guarded | go_step | go_upon)
    go_ret
    exact ⟨ret_boolG (decide_eq_false (fun h => c1 (by have h1 := h.2.2.2.1; rw [hq] at h1; exact h1))).symm, by (repeat (first | with_reducible exact Kk2 | with_reducible apply But.drewN | with_reducible apply But.drew | with_reducible apply But.alloc))⟩
  have gc1 : decide (v < q1) = false := by simp; omega
  rcases (Decidable.em (v ≤ q3)).symm with c3 | c3
  · have dc3 : decide (v ≤ q3) = false := decide_eq_false c3
    have gc3 : decide (q3 < v) = true := by simp; omega
    go_enter Try.func15, Try.ntmps15
    repeat (first | (go_at_call 10; refine (sgood _ _ _ _ _ _).mono ?_; rw [d]; rintro e w1 ⟨rfl, k1⟩; have hck1 := Kept.cell_eq k1; have hfk1 := Kept.frozen_eq k1; have hzk1 := k1.size; (try simp at hzk1); have nk1 : w.heap.size < w1.heap.size := (by omega); have Kk1 : Kept w w1 := (But.trans (by (repeat (first | with_reducible exact But.refl _ _ _ | with_reducible apply But.drewN | with_reducible apply But.drew | with_reducible apply But.alloc))) k1); clear k1; dsimp only) | (go_at_call 37; refine (sbnd _ _ _ _ _ _ HP.out).mono ?_; unfold Ret4; rw [hq]; rintro e w2 ⟨rfl, k2⟩; have hck2 := Kept.cell_eq k2; have hfk2 := Kept.frozen_eq k2; have hzk2 := k2.size; (try simp at hzk2); have nk2 : w.heap.size < w2.heap.size := (by omega); have Kk2 : Kept w w2 := (But.trans (by (repeat (first | with_reducible exact Kk1 | with_reducible apply But.drewN | with_reducible apply But.drew | with_reducible apply But.alloc))) k2); clear k2; dsimp only) | go_values | go_skip | go_guarded | go_step | go_upon)
    go_ret
    exact ⟨ret_boolG (decide_eq_false (fun h => c3 (by have h1 := h.2.2.2.2.1; rw [hq] at h1; exact h1))).symm, by (repeat (first | with_reducible exact Kk2 | with_reducible apply But.drewN | with_reducible apply But.drew | with_reducible apply But.alloc))⟩
  have gc3 : decide (q3 < v) = false := by simp; omega
  have key : decide (HasP (k, x, y, a, b) u v) = (decide (k = 1) || decide ((u - x) * (u - x) + (v - y) * (v - y) ≤ a * a)) := by
    rw [Bool.eq_iff_iff, decide_eq_true_iff]
    simp only [Bool.or_eq_true, decide_eq_true_iff]
    unfold HasP
    rw [hq]
    exact ⟨fun h => h.2.2.2.2.2, fun h => ⟨HP.out, c0, c2, c1, c3, h⟩⟩
  rw [key]
  rcases Decidable.em (k = 1) with hk | hk
  · subst hk
    go_enter Try.func15, Try.ntmps15
    repeat (first | (go_at_call 10; refine (sgood _ _ _ _ _ _).mono ?_; rw [d]; rintro e w1 ⟨rfl, k1⟩; have hck1 := Kept.cell_eq k1; have hfk1 := Kept.frozen_eq k1; have hzk1 := k1.size; (try simp at hzk1); have nk1 : w.heap.size < w1.heap.size := (by omega); have Kk1 : Kept w w1 := (But.trans (by (repeat (first | with_reducible exact But.refl _ _ _ | with_reducible apply But.drewN | with_reducible apply But.drew | with_reducible apply But.alloc))) k1); clear k1; dsimp only) | (go_at_call 37; refine (sbnd _ _ _ _ _ _ HP.out).mono ?_; unfold Ret4; rw [hq]; rintro e w2 ⟨rfl, k2⟩; have hck2 := Kept.cell_eq k2; have hfk2 := Kept.frozen_eq k2; have hzk2 := k2.size; (try simp at hzk2); have nk2 : w.heap.size < w2.heap.size := (by omega); have Kk2 : Kept w w2 := (But.trans (by (repeat (first | with_reducible exact Kk1 | with_reducible apply But.drewN | with_reducible apply But.drew | with_reducible apply But.alloc))) k2); clear k2; dsimp only) | go_values | go_skip | go_guarded | go_step | go_upon)
    go_ret
    exact ⟨ret_boolG (by simp), by (repeat (first | with_reducible exact Kk2 | with_reducible apply But.drewN | with_reducible apply But.drew | with_reducible apply But.alloc))⟩
  · have e0 : (k == 1) = false := by simpa using hk
    obtain ⟨⟨x1, x2⟩, ⟨y1, y2⟩, ⟨a1, a2⟩, hh⟩ := HP.out
    dsimp only at x1 x2 y1 y2 a1 a2 hh
    have hq' := hq
    rw [bnd, if_neg hk] at hq'
    simp only [Prod.mk.injEq] at hq'
    obtain ⟨r0, r1, r2, r3⟩ := hq'
    have s1 := sq_bd (z := u - x) (m := 1000) (by omega) (by omega)
    have s2 := sq_bd (z := v - y) (m := 1000) (by omega) (by omega)
    have s3 := sq_bd (z := a) (m := 1000) (by omega) (by omega)
    clear hh
    go_enter Try.func15, Try.ntmps15
    repeat (first | (go_at_call 10; refine (sgood _ _ _ _ _ _).mono ?_; rw [d]; rintro e w1 ⟨rfl, k1⟩; have hck1 := Kept.cell_eq k1; have hfk1 := Kept.frozen_eq k1; have hzk1 := k1.size; (try simp at hzk1); have nk1 : w.heap.size < w1.heap.size := (by omega); have Kk1 : Kept w w1 := (But.trans (by (repeat (first | with_reducible exact But.refl _ _ _ | with_reducible apply But.drewN | with_reducible apply But.drew | with_reducible apply But.alloc))) k1); clear k1; dsimp only) | (go_at_call 37; refine (sbnd _ _ _ _ _ _ HP.out).mono ?_; unfold Ret4; rw [hq]; rintro e w2 ⟨rfl, k2⟩; have hck2 := Kept.cell_eq k2; have hfk2 := Kept.frozen_eq k2; have hzk2 := k2.size; (try simp at hzk2); have nk2 : w.heap.size < w2.heap.size := (by omega); have Kk2 : Kept w w2 := (But.trans (by (repeat (first | with_reducible exact Kk1 | with_reducible apply But.drewN | with_reducible apply But.drew | with_reducible apply But.alloc))) k2); clear k2; dsimp only) | go_values | go_skip | go_guarded | go_step | go_upon)
    go_ret
    exact ⟨ret_boolG (by simp [hk]), by (repeat (first | with_reducible exact Kk2 | with_reducible apply But.drewN | with_reducible apply But.drew | with_reducible apply But.alloc))⟩


end Go.Proofs.Ytfibikkbhbmfkaa
