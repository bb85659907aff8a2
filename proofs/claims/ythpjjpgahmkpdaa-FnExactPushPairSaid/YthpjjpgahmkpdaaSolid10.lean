/-
  The program's bodies: what it asks of one.
-/
import Derived.Test.YthpjjpgahmkpdaaSpec10
import Derived.Test.YthpjjpgahmkpdaaQuiet
import Derived.Deep.RegionHeld3
import Derived.Deep.QuietTactic
namespace Go.Proofs.Ythpjjpgahmkpdaa
open Go.ChangeShapes Go.WideShapes Go.ChangeAt Go.RowKit

set_option maxRecDepth 100000
set_option linter.unusedVariables false
theorem igoodPush (p : Int) (w : World) : Calls Try.prog 112 #[.int .i64 p] w fun e w' => e = .returned (.bool (decide (-1000000 ≤ p ∧ p ≤ 1000000))) ∧ w' = w := by
  go_enter Try.func112, Try.ntmps112
  go_wp2
  all_goals
    go_ret
    exact ⟨ret_boolG (by rw [Bool.eq_iff_iff]; simp <;> omega), rfl⟩
theorem ibounce (p : Int) (w : World) : Calls Try.prog 56 #[.int .i64 p] w fun e w' => e = .returned (.bool (decide (0 ≤ p ∧ p ≤ 100))) ∧ w' = w := by
  go_enter Try.func56, Try.ntmps56
  go_wp2
  all_goals
    go_ret
    exact ⟨ret_boolG (by rw [Bool.eq_iff_iff]; simp <;> omega), rfl⟩
theorem iwall (x p m : Int) (w : World) : Calls Try.prog 89 #[.agg #[.int .i64 x, .int .i64 p, .int .i64 m]] w fun e w' => e = .returned (.bool (m == 0)) ∧ Kept w w' := by
  go_enter Try.func89, Try.ntmps89
  go_wp2
  go_ret
  exact ⟨rfl, by (repeat (first | with_reducible exact But.refl _ _ _ | with_reducible apply But.drewN | with_reducible apply But.drew | with_reducible apply But.alloc | (with_reducible refine But.setNew ?_ (by simp +arith) _)))⟩
theorem iright (x p m r : Int) (w : World) (h1 : -4000000000 ≤ x ∧ x ≤ 4000000000) (h2 : 0 ≤ r ∧ r ≤ 1000) : Calls Try.prog 87 #[.agg #[.int .i64 x, .int .i64 p, .int .i64 m, .int .i64 r]] w fun e w' => e = .returned (.int .i64 (x + r)) ∧ Kept w w' := by
  go_enter Try.func87, Try.ntmps87
  go_wp2
  go_ret
  exact ⟨rfl, by (repeat (first | with_reducible exact But.refl _ _ _ | with_reducible apply But.drewN | with_reducible apply But.drew | with_reducible apply But.alloc | (with_reducible refine But.setNew ?_ (by simp +arith) _)))⟩
theorem ileft (x p m r : Int) (w : World) (h1 : -4000000000 ≤ x ∧ x ≤ 4000000000) (h2 : 0 ≤ r ∧ r ≤ 1000) : Calls Try.prog 88 #[.agg #[.int .i64 x, .int .i64 p, .int .i64 m, .int .i64 r]] w fun e w' => e = .returned (.int .i64 (x - r)) ∧ Kept w w' := by
  go_enter Try.func88, Try.ntmps88
  go_wp2
  go_ret
  exact ⟨rfl, by (repeat (first | with_reducible exact But.refl _ _ _ | with_reducible apply But.drewN | with_reducible apply But.drew | with_reducible apply But.alloc | (with_reducible refine But.setNew ?_ (by simp +arith) _)))⟩
theorem ibody (x p m r : Int) (w : World) : Calls Try.prog 76 #[.agg #[.int .i64 x, .int .i64 p, .int .i64 m, .int .i64 r]] w fun e w' => e = .returned (.agg #[.int .i64 x, .int .i64 p, .int .i64 m, .int .i64 r]) ∧ Kept w w' := by
  go_enter Try.func76, Try.ntmps76
  go_wp2
  refine bodyPost_ret (v := .agg #[.int .i64 x, .int .i64 p, .int .i64 m, .int .i64 r]) (by simp [results, Try.results76, go_sem]) rfl ?_
  exact ⟨rfl, by (repeat (first | with_reducible exact But.refl _ _ _ | with_reducible apply But.drewN | with_reducible apply But.drew | with_reducible apply But.alloc | (with_reducible refine But.setNew ?_ (by simp +arith) _)))⟩
/-- What of a body moves is good. -/
def MovP (x p m : Int) : Prop := (-1000000000 ≤ x ∧ x ≤ 1000000000) ∧ (0 ≤ m ∧ m ≤ 12) ∧ (-1000000 ≤ p ∧ p ≤ 1000000) ∧ (p = 0 ∨ m ≠ 0)
instance (x p m : Int) : Decidable (MovP x p m) := inferInstanceAs (Decidable (_ ∧ _))
set_option maxHeartbeats 2000000 in
theorem igood (x p m : Int) (w : World) : Calls Try.prog 113 #[.agg #[.int .i64 x, .int .i64 p, .int .i64 m]] w fun e w' => e = .returned (.bool (decide (MovP x p m))) ∧ Kept w w' := by
  by_cases h1 : (-1000000000 ≤ x ∧ x ≤ 1000000000) ∧ (0 ≤ m ∧ m ≤ 12)
  · obtain ⟨⟨x1, x2⟩, m1, m2⟩ := h1
    have key : decide (MovP x p m) = (decide (-1000000 ≤ p ∧ p ≤ 1000000) && ((p == 0) || !(m == 0))) := by
      rw [Bool.eq_iff_iff, decide_eq_true_iff]
      simp [MovP]
      omega
    rw [key]
    have a1 : decide (x < -1000000000) = false := by simp; omega
    have a2 : decide (1000000000 < x) = false := by simp; omega
    have a3 : decide (m < 0) = false := by simp; omega
    have a4 : decide (12 < m) = false := by simp; omega
    cases hp : decide (-1000000 ≤ p ∧ p ≤ 1000000) <;> cases hz : (p == 0) <;> cases hm : (m == 0)
    all_goals
      go_enter Try.func113, Try.ntmps113
      repeat (first | (go_at_call 112; refine (igoodPush _ _).mono ?_; rw [hp]; rintro e w' ⟨rfl, rfl⟩; dsimp only) | (go_at_call 89; refine (iwall _ _ _ _).mono ?_; rw [hm]; rintro e w1 ⟨rfl, k1⟩; have hck1 := Kept.cell_eq k1; have hfk1 := Kept.frozen_eq k1; have hzk1 := k1.size; (try simp at hzk1); have nk1 : w.heap.size < w1.heap.size := (by omega); have Kk1 : Kept w w1 := (But.trans (by (repeat (first | with_reducible exact But.refl _ _ _ | with_reducible apply But.drewN | with_reducible apply But.drew | with_reducible apply But.alloc | (with_reducible refine But.setNew ?_ (by simp +arith) _)))) k1); clear k1; dsimp only) | go_values | go_skip | go_guarded | go_step | go_upon)
      go_ret
      exact ⟨rfl, by (repeat (first | with_reducible exact Kk1 | with_reducible exact But.refl _ _ _ | with_reducible apply But.drewN | with_reducible apply But.drew | with_reducible apply But.alloc | (with_reducible refine But.setNew ?_ (by simp +arith) _)))⟩
  · have key : decide (MovP x p m) = false := decide_eq_false (fun h => h1 ⟨h.1, h.2.1⟩)
    rw [key]
    go_enter Try.func113, Try.ntmps113
    go_wp2
    all_goals
      first | (exfalso; omega) | skip
    all_goals
      go_ret
      exact ⟨rfl, by (repeat (first | with_reducible exact But.refl _ _ _ | with_reducible apply But.drewN | with_reducible apply But.drew | with_reducible apply But.alloc | (with_reducible refine But.setNew ?_ (by simp +arith) _)))⟩

theorem bodyP_mov (x p m r : Int) : BodyP (x, p, m, r) ↔ (1 ≤ r ∧ r ≤ 1000) ∧ MovP x p m := by
  simp only [BodyP, MovP]
  omega
set_option maxHeartbeats 2000000 in
theorem isolid (x p m r : Int) (w : World) : Calls Try.prog 86 #[.agg #[.int .i64 x, .int .i64 p, .int .i64 m, .int .i64 r]] w fun e w' => e = .returned (.tuple #[.agg #[.int .i64 x, .int .i64 p, .int .i64 m, .int .i64 r], .bool (decide (BodyP (x, p, m, r)))]) ∧ Kept w w' := by
  have key : decide (BodyP (x, p, m, r)) = (decide (1 ≤ r ∧ r ≤ 1000) && decide (MovP x p m)) := by
    rw [Bool.eq_iff_iff, decide_eq_true_iff]
    simp [bodyP_mov]
  rw [key]
  cases hm : decide (MovP x p m)
  all_goals
    by_cases hr : 1 ≤ r ∧ r ≤ 1000
    · have d0 : decide (1 ≤ r ∧ r ≤ 1000) = true := decide_eq_true hr
      have d1 : decide (1 ≤ r) = true := decide_eq_true hr.1
      have d2 : decide (r ≤ 1000) = true := decide_eq_true hr.2
      rw [d0]
      clear d0
      go_enter Try.func86, Try.ntmps86
      repeat (first | go_values | go_skip | go_guarded | go_step | go_upon)
      go_region_with (go_at_call 113; refine (igood _ _ _ _).mono ?_; rw [hm]; rintro e w1 ⟨rfl, k1⟩; have hck1 := Kept.cell_eq k1; have hfk1 := Kept.frozen_eq k1; have hzk1 := k1.size; (try simp at hzk1); have nk1 : w.heap.size < w1.heap.size := (by omega); have Kk1 : Kept w w1 := (But.trans (by (repeat (first | with_reducible exact But.refl _ _ _ | with_reducible apply But.drewN | with_reducible apply But.drew | with_reducible apply But.alloc | (with_reducible refine But.setNew ?_ (by simp +arith) _)))) k1); clear k1; dsimp only)
      all_goals
        repeat (first | go_values | go_skip | go_guarded | go_step | go_upon)
        refine bodyPost_ret (v := .tuple #[.agg #[.int .i64 x, .int .i64 p, .int .i64 m, .int .i64 r], .bool _]) (by simp [results, Try.results86, go_sem, *]; rfl) rfl ?_
        exact ⟨rfl, by (repeat (first | with_reducible exact Kk1 | with_reducible apply But.drewN | with_reducible apply But.drew | with_reducible apply But.alloc | (with_reducible refine But.setNew ?_ (by simp +arith) _)))⟩
    · have d0 : decide (1 ≤ r ∧ r ≤ 1000) = false := decide_eq_false hr
      rw [d0]
      have d3 : (decide (1 ≤ r) = true ∧ decide (r ≤ 1000) = false) ∨ decide (1 ≤ r) = false := by
        by_cases h : 1 ≤ r
        · left; exact ⟨decide_eq_true h, decide_eq_false (fun h' => hr ⟨h, h'⟩)⟩
        · right; exact decide_eq_false h
      clear d0 hm
      rcases d3 with ⟨d1, d2⟩ | d1
      all_goals
        go_enter Try.func86, Try.ntmps86
        repeat (first | go_values | go_skip | go_guarded | go_step | go_upon)
        go_region
        all_goals
          repeat (first | go_values | go_skip | go_guarded | go_step | go_upon)
          refine bodyPost_ret (v := .tuple #[.agg #[.int .i64 x, .int .i64 p, .int .i64 m, .int .i64 r], .bool _]) (by simp [results, Try.results86, go_sem, *]; rfl) rfl ?_
          exact ⟨rfl, by (repeat (first | with_reducible exact But.refl _ _ _ | with_reducible apply But.drewN | with_reducible apply But.drew | with_reducible apply But.alloc | (with_reducible refine But.setNew ?_ (by simp +arith) _)))⟩

end Go.Proofs.Ythpjjpgahmkpdaa
