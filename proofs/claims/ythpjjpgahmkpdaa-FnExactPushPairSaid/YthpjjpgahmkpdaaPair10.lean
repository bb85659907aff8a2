/-
  Two bodies that push one another, as the specification says it.
-/
import Derived.Test.YthpjjpgahmkpdaaSpec10
import Derived.Test.YthpjjpgahmkpdaaQuiet
import Derived.Deep.RegionHeld3
import Derived.Deep.QuietTactic
namespace Go.Proofs.Ythpjjpgahmkpdaa
open Go.ChangeShapes Go.WideShapes Go.ChangeAt Go.RowKit

set_option maxRecDepth 100000
set_option linter.unusedVariables false
theorem mul12 {a b : Int} (h1 : -1000000 ≤ a) (h2 : a ≤ 1000000) (h3 : 0 ≤ b) (h4 : b ≤ 12) : -12000000 ≤ a * b ∧ a * b ≤ 12000000 := by
  have k1 := Int.mul_le_mul_of_nonneg_right h2 h3
  have k2 := Int.mul_le_mul_of_nonneg_right h1 h3
  constructor <;> omega
set_option maxHeartbeats 2000000 in
theorem snear (x p m r y q k s : Int) (w : World) (ha : BodyP (x, p, m, r)) (hb : BodyP (y, q, k, s)) : Calls Try.prog 109 #[.agg #[.int .i64 x, .int .i64 p, .int .i64 m, .int .i64 r], .agg #[.int .i64 y, .int .i64 q, .int .i64 k, .int .i64 s]] w fun e w' => e = .returned (.bool (decide (0 < (stop (x, p, m, r) (y, q, k, s)).1))) ∧ Kept w w' := by
  have hst := stop_bd ha hb
  obtain ⟨⟨x1, x2⟩, ⟨p1, p2⟩, ⟨m1, m2⟩, hm0, ⟨r1, r2⟩⟩ := id ha
  obtain ⟨⟨y1, y2⟩, ⟨q1, q2⟩, ⟨k1, k2⟩, hk0, ⟨s1, s2⟩⟩ := id hb
  dsimp only at x1 x2 p1 p2 m1 m2 hm0 r1 r2 y1 y2 q1 q2 k1 k2 hk0 s1 s2
  clear hst
  have e1 := mul12 p1 p2 k1 k2
  have e2 := mul12 q1 q2 m1 m2
  by_cases hm : m = 0
  · subst hm
    by_cases hk : k = 0
    · subst hk
      have hq : q = 0 := by omega
      subst hq
      go_enter Try.func109, Try.ntmps109
      go_wp2
      go_ret
      exact ⟨ret_boolG (by simp [stop, *] <;> omega), by (repeat (first | with_reducible exact But.refl _ _ _ | with_reducible apply But.drewN | with_reducible apply But.drew | with_reducible apply But.alloc | (with_reducible refine But.setNew ?_ (by simp +arith) _)))⟩
    · have c1 : (k == 0) = false := by simpa using hk
      go_enter Try.func109, Try.ntmps109
      go_wp2
      go_ret
      exact ⟨ret_boolG (by simp [stop, *] <;> omega), by (repeat (first | with_reducible exact But.refl _ _ _ | with_reducible apply But.drewN | with_reducible apply But.drew | with_reducible apply But.alloc | (with_reducible refine But.setNew ?_ (by simp +arith) _)))⟩
  · have c0 : (m == 0) = false := by simpa using hm
    by_cases hk : k = 0
    · subst hk
      go_enter Try.func109, Try.ntmps109
      go_wp2
      go_ret
      exact ⟨ret_boolG (by simp [stop, *] <;> omega), by (repeat (first | with_reducible exact But.refl _ _ _ | with_reducible apply But.drewN | with_reducible apply But.drew | with_reducible apply But.alloc | (with_reducible refine But.setNew ?_ (by simp +arith) _)))⟩
    · have c1 : (k == 0) = false := by simpa using hk
      go_enter Try.func109, Try.ntmps109
      go_wp2
      go_ret
      exact ⟨ret_boolG (by simp [stop, *] <;> omega), by (repeat (first | with_reducible exact But.refl _ _ _ | with_reducible apply But.drewN | with_reducible apply But.drew | with_reducible apply But.alloc | (with_reducible refine But.setNew ?_ (by simp +arith) _)))⟩


theorem mul_up {a b m n : Int} (h1 : 0 ≤ a) (h2 : a ≤ m) (h3 : 0 ≤ b) (h4 : b ≤ n) : 0 ≤ a * b ∧ a * b ≤ m * n := ⟨Int.mul_nonneg h1 h3, Int.le_trans (Int.mul_le_mul_of_nonneg_right h2 h3) (Int.mul_le_mul_of_nonneg_left h4 (by omega))⟩
theorem jOf_bd {a b : BodyD} {bo : Int} (ha : BodyP a) (hb : BodyP b) (hbo : 0 ≤ bo ∧ bo ≤ 100) : -4800000000 ≤ jOf a b bo ∧ jOf a b bo ≤ 4800000000 := by
  obtain ⟨⟨h1, h2⟩, h3, h4⟩ := stop_bd ha hb
  unfold jOf
  split
  · omega
  · rename_i h
    have hs : 0 < (stop a b).1 := by omega
    have k1 := mul_up (a := 100 + bo) (b := (stop a b).1) (m := 200) (n := 24000000) (by omega) (by omega) (by omega) (by omega)
    have k2 : 0 ≤ ((100 + bo) * (stop a b).1).tdiv (100 * (stop a b).2) := Int.tdiv_nonneg k1.1 (by omega)
    have k3 := Int.tdiv_le_self (100 * (stop a b).2) k1.1
    omega

set_option maxHeartbeats 4000000 in
theorem spair (x p m r y q k s bo : Int) (w : World) (ha : BodyP (x, p, m, r)) (hb : BodyP (y, q, k, s)) (hbo : 0 ≤ bo ∧ bo ≤ 100) : Calls Try.prog 74 #[.agg #[.int .i64 x, .int .i64 p, .int .i64 m, .int .i64 r], .agg #[.int .i64 y, .int .i64 q, .int .i64 k, .int .i64 s], .int .i64 bo] w fun e w' => e = .returned (.tuple #[.agg (bodyC ((pairM (x, p, m, r) (y, q, k, s) bo).1)).toArray, .agg (bodyC ((pairM (x, p, m, r) (y, q, k, s) bo).2)).toArray]) ∧ Kept w w' := by
  have hst := stop_bd ha hb
  obtain ⟨⟨x1, x2⟩, ⟨p1, p2⟩, ⟨m1, m2⟩, hm0, ⟨r1, r2⟩⟩ := id ha
  obtain ⟨⟨y1, y2⟩, ⟨q1, q2⟩, ⟨k1, k2⟩, hk0, ⟨s1, s2⟩⟩ := id hb
  dsimp only at x1 x2 p1 p2 m1 m2 hm0 r1 r2 y1 y2 q1 q2 k1 k2 hk0 s1 s2
  have HA : Hid (BodyP (x, p, m, r)) := ha
  have HB : Hid (BodyP (y, q, k, s)) := hb
  clear ha hb
  by_cases ht : x + r < y - s
  · have hj : jOf (x, p, m, r) (y, q, k, s) bo = 0 := by unfold jOf; rw [if_pos (Or.inl ht)]
    have ea : (pairM (x, p, m, r) (y, q, k, s) bo).1 = (x, p, m, r) := by unfold pairM; rw [hj]; exact took_zero _
    have eb : (pairM (x, p, m, r) (y, q, k, s) bo).2 = (y, q, k, s) := by unfold pairM; rw [hj]; exact took_zero _
    rw [ea, eb]
    have dt : decide (x + r < y - s) = true := decide_eq_true ht
    clear hst hm0 hk0 hj ea eb
    go_enter Try.func74, Try.ntmps74
    repeat (first | (go_at_call 109; refine (snear _ _ _ _ _ _ _ _ _ HA.out HB.out).mono ?_; rw [dn]; rintro e w9 ⟨rfl, k9⟩; have hck9 := Kept.cell_eq k9; have hfk9 := Kept.frozen_eq k9; have hzk9 := k9.size; (try simp at hzk9); have nk9 : w.heap.size < w9.heap.size := (by omega); have Kk9 : Kept w w9 := (But.trans (by (repeat (first | with_reducible exact But.refl _ _ _ | with_reducible apply But.drewN | with_reducible apply But.drew | with_reducible apply But.alloc | (with_reducible refine But.setNew ?_ (by simp +arith) _)))) k9); clear k9; have fax : w9.cell? ⟨w.heap.size, 0, none⟩ = some (.int .i64 x) := (by rw [hck9 _ _ (by simp +arith)]; simp [go_sem]); have fap : w9.cell? ⟨w.heap.size, 1, none⟩ = some (.int .i64 p) := (by rw [hck9 _ _ (by simp +arith)]; simp [go_sem]); have fam : w9.cell? ⟨w.heap.size, 2, none⟩ = some (.int .i64 m) := (by rw [hck9 _ _ (by simp +arith)]; simp [go_sem]); have far : w9.cell? ⟨w.heap.size, 3, none⟩ = some (.int .i64 r) := (by rw [hck9 _ _ (by simp +arith)]; simp [go_sem]); have fby : w9.cell? ⟨w.heap.size + 1, 0, none⟩ = some (.int .i64 y) := (by rw [hck9 _ _ (by simp +arith)]; simp [go_sem]); have fbq : w9.cell? ⟨w.heap.size + 1, 1, none⟩ = some (.int .i64 q) := (by rw [hck9 _ _ (by simp +arith)]; simp [go_sem]); have fbk : w9.cell? ⟨w.heap.size + 1, 2, none⟩ = some (.int .i64 k) := (by rw [hck9 _ _ (by simp +arith)]; simp [go_sem]); have fbs : w9.cell? ⟨w.heap.size + 1, 3, none⟩ = some (.int .i64 s) := (by rw [hck9 _ _ (by simp +arith)]; simp [go_sem]); have fr0 := hfk9 w.heap.size 1 (by simp +arith); have fr1 := hfk9 (w.heap.size + 1) 1 (by simp +arith); simp [go_sem] at fr0 fr1; have ok1 : w.heap.size + 1 < w9.heap.size := (by omega); dsimp only) | go_values | go_skip | go_guarded | go_step | go_upon)
    go_region
    all_goals
      repeat (first | go_values | go_skip | go_guarded | go_step | go_upon)
      refine bodyPost_ret (v := .tuple #[.agg #[.int .i64 x, .int .i64 p, .int .i64 m, .int .i64 r], .agg #[.int .i64 y, .int .i64 q, .int .i64 k, .int .i64 s]]) (by simp [results, Try.results74, go_sem, *]) rfl ?_
      exact ⟨rfl, by (repeat (first | with_reducible exact But.refl _ _ _ | with_reducible apply But.drewN | with_reducible apply But.drew | with_reducible apply But.alloc | (with_reducible refine But.setNew ?_ (by simp +arith) _)))⟩

  have dt : decide (x + r < y - s) = false := decide_eq_false ht
  by_cases hn : 0 < (stop (x, p, m, r) (y, q, k, s)).1
  · have dn : decide (0 < (stop (x, p, m, r) (y, q, k, s)).1) = true := decide_eq_true hn
    have hj : jOf (x, p, m, r) (y, q, k, s) bo = ((100 + bo) * (stop (x, p, m, r) (y, q, k, s)).1).tdiv (100 * (stop (x, p, m, r) (y, q, k, s)).2) := by unfold jOf; rw [if_neg (by rintro (h | h); exact ht h; omega)]
    have hJ : -4800000000 ≤ jOf (x, p, m, r) (y, q, k, s) bo ∧ jOf (x, p, m, r) (y, q, k, s) bo ≤ 4800000000 := jOf_bd HA.out HB.out hbo
    obtain ⟨J, eJ⟩ : ∃ J, jOf (x, p, m, r) (y, q, k, s) bo = J := ⟨_, rfl⟩
    have ea : (pairM (x, p, m, r) (y, q, k, s) bo).1 = (x, if m = 0 then p else p - J, m, r) := by rw [pairM, eJ]; rfl
    have eb : (pairM (x, p, m, r) (y, q, k, s) bo).2 = (y, if k = 0 then q else q + J, k, s) := by rw [pairM, eJ]; rfl
    rw [ea, eb]
    rw [eJ] at hj hJ
    obtain ⟨J1, J2⟩ := hJ
    clear hst ea eb
    by_cases hm : m = 0
    · subst hm
      have hk : k ≠ 0 := by
        rintro rfl
        have hq : q = 0 := by omega
        subst hq
        simp [stop] at hn
      have c1 : (k == 0) = false := by simpa using hk
      have d1 : decide (0 < k) = true := decide_eq_true (by omega)
      rw [if_pos rfl, if_neg hk]
      simp only [stop, if_pos] at hj hn
      rw [Int.mul_one] at hj
      have e1 : IntKind.i64.wrap (-q) = -q := IntWalk.i64_in _ (by omega)
      have e2 : 0 ≤ (100 + bo) * -q ∧ (100 + bo) * -q ≤ 200 * 1000000 := mul_up (by omega) (by omega) (by omega) (by omega)
      have e3 : IntKind.i64.wrap ((100 + bo) * -q) = (100 + bo) * -q := IntWalk.i64_in _ (by omega)
      rw [Int.tdiv_eq_ediv_of_nonneg e2.1] at hj
      subst hj
      clear hm0 hk0 eJ
      go_enter Try.func74, Try.ntmps74
      repeat (first | (go_at_call 109; refine (snear _ _ _ _ _ _ _ _ _ HA.out HB.out).mono ?_; rw [dn]; rintro e w9 ⟨rfl, k9⟩; have hck9 := Kept.cell_eq k9; have hfk9 := Kept.frozen_eq k9; have hzk9 := k9.size; (try simp at hzk9); have nk9 : w.heap.size < w9.heap.size := (by omega); have Kk9 : Kept w w9 := (But.trans (by (repeat (first | with_reducible exact But.refl _ _ _ | with_reducible apply But.drewN | with_reducible apply But.drew | with_reducible apply But.alloc | (with_reducible refine But.setNew ?_ (by simp +arith) _)))) k9); clear k9; have fax : w9.cell? ⟨w.heap.size, 0, none⟩ = some (.int .i64 x) := (by rw [hck9 _ _ (by simp +arith)]; simp [go_sem]); have fap : w9.cell? ⟨w.heap.size, 1, none⟩ = some (.int .i64 p) := (by rw [hck9 _ _ (by simp +arith)]; simp [go_sem]); have f02 : w9.cell? ⟨w.heap.size, 2, none⟩ = some (.int .i64 0) := (by rw [hck9 _ _ (by simp +arith)]; simp [go_sem]); have far : w9.cell? ⟨w.heap.size, 3, none⟩ = some (.int .i64 r) := (by rw [hck9 _ _ (by simp +arith)]; simp [go_sem]); have fby : w9.cell? ⟨w.heap.size + 1, 0, none⟩ = some (.int .i64 y) := (by rw [hck9 _ _ (by simp +arith)]; simp [go_sem]); have fbq : w9.cell? ⟨w.heap.size + 1, 1, none⟩ = some (.int .i64 q) := (by rw [hck9 _ _ (by simp +arith)]; simp [go_sem]); have fbk : w9.cell? ⟨w.heap.size + 1, 2, none⟩ = some (.int .i64 k) := (by rw [hck9 _ _ (by simp +arith)]; simp [go_sem]); have fbs : w9.cell? ⟨w.heap.size + 1, 3, none⟩ = some (.int .i64 s) := (by rw [hck9 _ _ (by simp +arith)]; simp [go_sem]); have fr0 := hfk9 w.heap.size 1 (by simp +arith); have fr1 := hfk9 (w.heap.size + 1) 1 (by simp +arith); simp [go_sem] at fr0 fr1; have ok1 : w.heap.size + 1 < w9.heap.size := (by omega); dsimp only) | go_values | go_skip | go_guarded | go_step | go_upon)
      go_region
      all_goals
        repeat (first | go_values | go_skip | go_guarded | go_step | go_upon)
        refine bodyPost_ret (v := .tuple #[.agg #[.int .i64 x, .int .i64 p, .int .i64 0, .int .i64 r], .agg #[.int .i64 y, .int .i64 (q + (100 + bo) * -q / 100), .int .i64 k, .int .i64 s]]) (by simp [results, Try.results74, go_sem, *]) rfl ?_
        exact ⟨rfl, by (repeat (first | with_reducible exact Kk9 | with_reducible apply But.drewN | with_reducible apply But.drew | with_reducible apply But.alloc | (with_reducible refine But.setNew ?_ (by simp +arith) _)))⟩
    · have c0 : (m == 0) = false := by simpa using hm
      have d0 : decide (0 < m) = true := decide_eq_true (by omega)
      rw [if_neg hm]
      by_cases hk : k = 0
      · subst hk
        rw [if_pos rfl]
        simp only [stop, if_neg hm, if_pos] at hj hn
        rw [Int.mul_one] at hj
        have e2 : 0 ≤ (100 + bo) * p ∧ (100 + bo) * p ≤ 200 * 1000000 := mul_up (by omega) (by omega) (by omega) (by omega)
        have e3 : IntKind.i64.wrap ((100 + bo) * p) = (100 + bo) * p := IntWalk.i64_in _ (by omega)
        rw [Int.tdiv_eq_ediv_of_nonneg e2.1] at hj
        subst hj
        clear hm0 hk0 eJ
        go_enter Try.func74, Try.ntmps74
        repeat (first | (go_at_call 109; refine (snear _ _ _ _ _ _ _ _ _ HA.out HB.out).mono ?_; rw [dn]; rintro e w9 ⟨rfl, k9⟩; have hck9 := Kept.cell_eq k9; have hfk9 := Kept.frozen_eq k9; have hzk9 := k9.size; (try simp at hzk9); have nk9 : w.heap.size < w9.heap.size := (by omega); have Kk9 : Kept w w9 := (But.trans (by (repeat (first | with_reducible exact But.refl _ _ _ | with_reducible apply But.drewN | with_reducible apply But.drew | with_reducible apply But.alloc | (with_reducible refine But.setNew ?_ (by simp +arith) _)))) k9); clear k9; have fax : w9.cell? ⟨w.heap.size, 0, none⟩ = some (.int .i64 x) := (by rw [hck9 _ _ (by simp +arith)]; simp [go_sem]); have fap : w9.cell? ⟨w.heap.size, 1, none⟩ = some (.int .i64 p) := (by rw [hck9 _ _ (by simp +arith)]; simp [go_sem]); have fam : w9.cell? ⟨w.heap.size, 2, none⟩ = some (.int .i64 m) := (by rw [hck9 _ _ (by simp +arith)]; simp [go_sem]); have far : w9.cell? ⟨w.heap.size, 3, none⟩ = some (.int .i64 r) := (by rw [hck9 _ _ (by simp +arith)]; simp [go_sem]); have fby : w9.cell? ⟨w.heap.size + 1, 0, none⟩ = some (.int .i64 y) := (by rw [hck9 _ _ (by simp +arith)]; simp [go_sem]); have fbq : w9.cell? ⟨w.heap.size + 1, 1, none⟩ = some (.int .i64 q) := (by rw [hck9 _ _ (by simp +arith)]; simp [go_sem]); have f12 : w9.cell? ⟨w.heap.size + 1, 2, none⟩ = some (.int .i64 0) := (by rw [hck9 _ _ (by simp +arith)]; simp [go_sem]); have fbs : w9.cell? ⟨w.heap.size + 1, 3, none⟩ = some (.int .i64 s) := (by rw [hck9 _ _ (by simp +arith)]; simp [go_sem]); have fr0 := hfk9 w.heap.size 1 (by simp +arith); have fr1 := hfk9 (w.heap.size + 1) 1 (by simp +arith); simp [go_sem] at fr0 fr1; have ok1 : w.heap.size + 1 < w9.heap.size := (by omega); dsimp only) | go_values | go_skip | go_guarded | go_step | go_upon)
        go_region
        all_goals
          repeat (first | go_values | go_skip | go_guarded | go_step | go_upon)
          refine bodyPost_ret (v := .tuple #[.agg #[.int .i64 x, .int .i64 (p - (100 + bo) * p / 100), .int .i64 m, .int .i64 r], .agg #[.int .i64 y, .int .i64 q, .int .i64 0, .int .i64 s]]) (by simp [results, Try.results74, go_sem, *]) rfl ?_
          exact ⟨rfl, by (repeat (first | with_reducible exact Kk9 | with_reducible apply But.drewN | with_reducible apply But.drew | with_reducible apply But.alloc | (with_reducible refine But.setNew ?_ (by simp +arith) _)))⟩
      · have c1 : (k == 0) = false := by simpa using hk
        have d1 : decide (0 < k) = true := decide_eq_true (by omega)
        rw [if_neg hk]
        simp only [stop, if_neg hm, if_neg hk] at hj hn
        have f1 := mul12 p1 p2 k1 k2
        have f2 := mul12 q1 q2 m1 m2
        have g1 : IntKind.i64.wrap (p * k) = p * k := IntWalk.i64_in _ (by omega)
        have g2 : IntKind.i64.wrap (q * m) = q * m := IntWalk.i64_in _ (by omega)
        have g3 : IntKind.i64.wrap (p * k - q * m) = p * k - q * m := IntWalk.i64_in _ (by omega)
        have e2 : 0 ≤ (100 + bo) * (p * k - q * m) ∧ (100 + bo) * (p * k - q * m) ≤ 200 * 24000000 := mul_up (by omega) (by omega) (by omega) (by omega)
        have e3 : IntKind.i64.wrap ((100 + bo) * (p * k - q * m)) = (100 + bo) * (p * k - q * m) := IntWalk.i64_in _ (by omega)
        have e4 : IntKind.i64.wrap (100 * (m + k)) = 100 * (m + k) := IntWalk.i64_in _ (by omega)
        have e5 : (100 * (m + k) == 0) = false := by simp; omega
        have e6 : 0 < 100 * (m + k) := by omega
        rw [Int.tdiv_eq_ediv_of_nonneg e2.1] at hj
        subst hj
        clear hm0 hk0 eJ
        go_enter Try.func74, Try.ntmps74
        repeat (first | (go_at_call 109; refine (snear _ _ _ _ _ _ _ _ _ HA.out HB.out).mono ?_; rw [dn]; rintro e w9 ⟨rfl, k9⟩; have hck9 := Kept.cell_eq k9; have hfk9 := Kept.frozen_eq k9; have hzk9 := k9.size; (try simp at hzk9); have nk9 : w.heap.size < w9.heap.size := (by omega); have Kk9 : Kept w w9 := (But.trans (by (repeat (first | with_reducible exact But.refl _ _ _ | with_reducible apply But.drewN | with_reducible apply But.drew | with_reducible apply But.alloc | (with_reducible refine But.setNew ?_ (by simp +arith) _)))) k9); clear k9; have fax : w9.cell? ⟨w.heap.size, 0, none⟩ = some (.int .i64 x) := (by rw [hck9 _ _ (by simp +arith)]; simp [go_sem]); have fap : w9.cell? ⟨w.heap.size, 1, none⟩ = some (.int .i64 p) := (by rw [hck9 _ _ (by simp +arith)]; simp [go_sem]); have fam : w9.cell? ⟨w.heap.size, 2, none⟩ = some (.int .i64 m) := (by rw [hck9 _ _ (by simp +arith)]; simp [go_sem]); have far : w9.cell? ⟨w.heap.size, 3, none⟩ = some (.int .i64 r) := (by rw [hck9 _ _ (by simp +arith)]; simp [go_sem]); have fby : w9.cell? ⟨w.heap.size + 1, 0, none⟩ = some (.int .i64 y) := (by rw [hck9 _ _ (by simp +arith)]; simp [go_sem]); have fbq : w9.cell? ⟨w.heap.size + 1, 1, none⟩ = some (.int .i64 q) := (by rw [hck9 _ _ (by simp +arith)]; simp [go_sem]); have fbk : w9.cell? ⟨w.heap.size + 1, 2, none⟩ = some (.int .i64 k) := (by rw [hck9 _ _ (by simp +arith)]; simp [go_sem]); have fbs : w9.cell? ⟨w.heap.size + 1, 3, none⟩ = some (.int .i64 s) := (by rw [hck9 _ _ (by simp +arith)]; simp [go_sem]); have fr0 := hfk9 w.heap.size 1 (by simp +arith); have fr1 := hfk9 (w.heap.size + 1) 1 (by simp +arith); simp [go_sem] at fr0 fr1; have ok1 : w.heap.size + 1 < w9.heap.size := (by omega); dsimp only) | go_values | go_skip | go_guarded | go_step | go_upon)
        go_region
        all_goals
          repeat (first | go_values | go_skip | go_guarded | go_step | go_upon)
          refine bodyPost_ret (v := .tuple #[.agg #[.int .i64 x, .int .i64 (p - (100 + bo) * (p * k - q * m) / (100 * (m + k))), .int .i64 m, .int .i64 r], .agg #[.int .i64 y, .int .i64 (q + (100 + bo) * (p * k - q * m) / (100 * (m + k))), .int .i64 k, .int .i64 s]]) (by simp [results, Try.results74, go_sem, *]) rfl ?_
          exact ⟨rfl, by (repeat (first | with_reducible exact Kk9 | with_reducible apply But.drewN | with_reducible apply But.drew | with_reducible apply But.alloc | (with_reducible refine But.setNew ?_ (by simp +arith) _)))⟩

  · have dn : decide (0 < (stop (x, p, m, r) (y, q, k, s)).1) = false := decide_eq_false hn
    have hj : jOf (x, p, m, r) (y, q, k, s) bo = 0 := by unfold jOf; rw [if_pos (Or.inr (by omega))]
    have ea : (pairM (x, p, m, r) (y, q, k, s) bo).1 = (x, p, m, r) := by unfold pairM; rw [hj]; exact took_zero _
    have eb : (pairM (x, p, m, r) (y, q, k, s) bo).2 = (y, q, k, s) := by unfold pairM; rw [hj]; exact took_zero _
    rw [ea, eb]
    clear hst hm0 hk0 hj ea eb
    go_enter Try.func74, Try.ntmps74
    repeat (first | (go_at_call 109; refine (snear _ _ _ _ _ _ _ _ _ HA.out HB.out).mono ?_; rw [dn]; rintro e w9 ⟨rfl, k9⟩; have hck9 := Kept.cell_eq k9; have hfk9 := Kept.frozen_eq k9; have hzk9 := k9.size; (try simp at hzk9); have nk9 : w.heap.size < w9.heap.size := (by omega); have Kk9 : Kept w w9 := (But.trans (by (repeat (first | with_reducible exact But.refl _ _ _ | with_reducible apply But.drewN | with_reducible apply But.drew | with_reducible apply But.alloc | (with_reducible refine But.setNew ?_ (by simp +arith) _)))) k9); clear k9; have fax : w9.cell? ⟨w.heap.size, 0, none⟩ = some (.int .i64 x) := (by rw [hck9 _ _ (by simp +arith)]; simp [go_sem]); have fap : w9.cell? ⟨w.heap.size, 1, none⟩ = some (.int .i64 p) := (by rw [hck9 _ _ (by simp +arith)]; simp [go_sem]); have fam : w9.cell? ⟨w.heap.size, 2, none⟩ = some (.int .i64 m) := (by rw [hck9 _ _ (by simp +arith)]; simp [go_sem]); have far : w9.cell? ⟨w.heap.size, 3, none⟩ = some (.int .i64 r) := (by rw [hck9 _ _ (by simp +arith)]; simp [go_sem]); have fby : w9.cell? ⟨w.heap.size + 1, 0, none⟩ = some (.int .i64 y) := (by rw [hck9 _ _ (by simp +arith)]; simp [go_sem]); have fbq : w9.cell? ⟨w.heap.size + 1, 1, none⟩ = some (.int .i64 q) := (by rw [hck9 _ _ (by simp +arith)]; simp [go_sem]); have fbk : w9.cell? ⟨w.heap.size + 1, 2, none⟩ = some (.int .i64 k) := (by rw [hck9 _ _ (by simp +arith)]; simp [go_sem]); have fbs : w9.cell? ⟨w.heap.size + 1, 3, none⟩ = some (.int .i64 s) := (by rw [hck9 _ _ (by simp +arith)]; simp [go_sem]); have fr0 := hfk9 w.heap.size 1 (by simp +arith); have fr1 := hfk9 (w.heap.size + 1) 1 (by simp +arith); simp [go_sem] at fr0 fr1; have ok1 : w.heap.size + 1 < w9.heap.size := (by omega); dsimp only) | go_values | go_skip | go_guarded | go_step | go_upon)
    go_region
    all_goals
      repeat (first | go_values | go_skip | go_guarded | go_step | go_upon)
      refine bodyPost_ret (v := .tuple #[.agg #[.int .i64 x, .int .i64 p, .int .i64 m, .int .i64 r], .agg #[.int .i64 y, .int .i64 q, .int .i64 k, .int .i64 s]]) (by simp [results, Try.results74, go_sem, *]) rfl ?_
      exact ⟨rfl, by (repeat (first | with_reducible exact Kk9 | with_reducible apply But.drewN | with_reducible apply But.drew | with_reducible apply But.alloc | (with_reducible refine But.setNew ?_ (by simp +arith) _)))⟩


end Go.Proofs.Ythpjjpgahmkpdaa
