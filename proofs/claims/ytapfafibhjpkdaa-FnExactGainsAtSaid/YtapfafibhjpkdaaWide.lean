/-
  What the functions on numbers of 128 bits answer: contracts of l1Times, Mul64, Add64, l1Plus, l1Sum, l1Less, squareWide, addWide, lessWide.
-/
import Derived.Test.YtapfafibhjpkdaaRows
import Derived.Test.YtapfafibhjpkdaaMath
import Derived.Laws.Externs
import Derived.WalkKit
import Derived.ProofKit
import Derived.OpenShut
import Derived.Handy
namespace Go.Proofs.Ytapfafibhjpkdaa
open Go.ChangeShapes Go.WideShapes Go.ChangeAt Go.RowKit

theorem retI {k : IntKind} {a b : Int} (h : a = b) : Ending.returned (.int k a) = .returned (.int k b) := by rw [h]
theorem ret_wide {a b c d : Int} (h : a = c) (h' : b = d) : Ending.returned (.agg #[.int .u64 a, .int .u64 b]) = .returned (.agg #[.int .u64 c, .int .u64 d]) := by rw [h, h']
theorem ret_two {k k' : IntKind} {a b c d : Int} (h : a = c) (h' : b = d) : Ending.returned (.tuple #[.int k a, .int k' b]) = .returned (.tuple #[.int k c, .int k' d]) := by rw [h, h']

set_option maxHeartbeats 400000 in
theorem times_any (a b : Int) (w : World) (ha : 0 ≤ a) (ha' : a < 18446744073709551616) (hb : 0 ≤ b) (hb' : b < 18446744073709551616) :
    Calls Try.prog 79 #[.int .u64 a, .int .u64 b] w fun e w' => e = .returned (.agg #[.int .u64 (a*b/18446744073709551616), .int .u64 (a*b%18446744073709551616)]) ∧ Grown w w' := by
  go_enter Try.func79, Try.ntmps79
  go_wp2
  go_returns
  refine ⟨?_, by go_grown⟩
  obtain ⟨e, hp, hq, hr, hs⟩ := Plain.halves a b ha ha' hb hb'
  rw [e]
  generalize a / 4294967296 * (b / 4294967296) = p at *
  generalize a / 4294967296 * (b % 4294967296) = q at *
  generalize a % 4294967296 * (b / 4294967296) = r at *
  generalize a % 4294967296 * (b % 4294967296) = s at *
  clear e ha ha' hb hb'
  simp only [IntKind.wrap_u64]
  have s1 : s % 18446744073709551616 = s := by omega
  have q1 : q % 18446744073709551616 = q := by omega
  have p1 : p % 18446744073709551616 = p := by omega
  have r1 : r % 18446744073709551616 = r := by omega
  simp only [s1, q1, p1, r1]
  have d1 : s.tdiv 4294967296 = s / 4294967296 := Int.tdiv_eq_ediv_of_nonneg hs.1
  have m1 : s.tmod 4294967296 = s % 4294967296 := Int.tmod_eq_emod_of_nonneg hs.1
  simp only [d1, m1]
  have s2 : s / 4294967296 % 18446744073709551616 = s / 4294967296 := by omega
  simp only [s2]
  have t1 : (q + s / 4294967296) % 18446744073709551616 = q + s / 4294967296 := by omega
  simp only [t1]
  have d2 : (q + s / 4294967296).tdiv 4294967296 = (q + s / 4294967296) / 4294967296 := Int.tdiv_eq_ediv_of_nonneg (by omega)
  have m2 : (q + s / 4294967296).tmod 4294967296 = (q + s / 4294967296) % 4294967296 := Int.tmod_eq_emod_of_nonneg (by omega)
  simp only [d2, m2]
  have t2 : (r + (q + s / 4294967296) % 4294967296) % 18446744073709551616 = r + (q + s / 4294967296) % 4294967296 := by omega
  simp only [t2]
  have d3 : (r + (q + s / 4294967296) % 4294967296).tdiv 4294967296 = (r + (q + s / 4294967296) % 4294967296) / 4294967296 := Int.tdiv_eq_ediv_of_nonneg (by omega)
  simp only [d3]
  have o1 : (r + (q + s / 4294967296) % 4294967296) * 4294967296 % 18446744073709551616 = (r + (q + s / 4294967296) % 4294967296) % 4294967296 * 4294967296 := by omega
  rw [o1, Plain.or32 _ _ (by omega) (by omega) (by omega) (by omega)]
  exact ret_wide (by omega) (by omega)

set_option maxHeartbeats 400000 in
theorem mul64_any (a b : Int) (w : World) (ha : 0 ≤ a) (ha' : a < 18446744073709551616) (hb : 0 ≤ b) (hb' : b < 18446744073709551616) :
    Calls Try.prog 123 #[.int .u64 a, .int .u64 b] w fun e w' => e = .returned (.tuple #[.int .u64 (a*b/18446744073709551616), .int .u64 (a*b%18446744073709551616)]) ∧ w' = w := by
  go_enter Try.func123, Try.ntmps123
  go_wp2
  go_returns
  refine ⟨?_, rfl⟩
  obtain ⟨e, hp, hq, hr, hs⟩ := Plain.halves a b ha ha' hb hb'
  refine ret_two ?_ (by rw [IntKind.wrap_u64])
  simp only [Plain.and32 _ ha ha', Plain.and32 _ hb hb']
  rw [e]
  generalize a / 4294967296 * (b / 4294967296) = p at *
  generalize a / 4294967296 * (b % 4294967296) = q at *
  generalize a % 4294967296 * (b / 4294967296) = r at *
  generalize a % 4294967296 * (b % 4294967296) = s at *
  clear e ha ha' hb hb'
  simp only [IntKind.wrap_u64]
  rw [Plain.and32 _ (by omega) (by omega)]
  omega

theorem gtrans {a b c : World} (h : Grown a b) (k : Grown b c) : Grown a c := by
  refine ⟨World.keptBut_trans h.1 k.1, fun x => (k.2.1 x).trans (h.2.1 x), Nat.le_trans h.2.2 k.2.2⟩

theorem add64_run (x y c : Int) (w : World) (hx : 0 ≤ x) (hy : 0 ≤ y) (hc0 : 0 ≤ c) (hc : c ≤ 1) :
    (callFunc 122 #[.int .u64 x, .int .u64 y, .int .u64 c]).run Try.prog w =
      .ok (.value (.tuple #[.int .u64 ((x + y + c) % 18446744073709551616), .int .u64 ((x + y + c) / 18446744073709551616)])) w := by
  rw [run_callFunc_extern Try.func122 (by kernel_rfl) (by kernel_rfl) (by kernel_rfl) (e := add64Entry) (by kernel_rfl), run_add64 x y c hx hy hc0 hc]
  rfl

set_option maxHeartbeats 400000 in
theorem addWide_any (m n : Int) (w : World) (ha : 0 ≤ m) (ha' : m < 170141183460469231731687303715884105728) (hb : 0 ≤ n) (hb' : n < 170141183460469231731687303715884105728) :
    Calls Try.prog 104 #[.agg #[.int .u64 (m/18446744073709551616), .int .u64 (m%18446744073709551616)], .agg #[.int .u64 (n/18446744073709551616), .int .u64 (n%18446744073709551616)]] w fun e w' => e = .returned (.agg #[.int .u64 ((m+n)/18446744073709551616), .int .u64 ((m+n)%18446744073709551616)]) ∧ Grown w w' := by
  have e1 := fun w => add64_run (m%18446744073709551616) (n%18446744073709551616) 0 w (by omega) (by omega) (by omega) (by omega)
  have e2 := fun w => add64_run (m/18446744073709551616) (n/18446744073709551616) ((m%18446744073709551616 + n%18446744073709551616)/18446744073709551616) w (by omega) (by omega) (by omega) (by omega)
  go_enter Try.func104, Try.ntmps104
  go_wp2_with (first | simp only [e1] | simp only [e2])
  go_returns
  exact ⟨ret_wide (by omega) (by omega), by go_grown⟩

set_option maxHeartbeats 400000 in
theorem squareWide_any (n : Int) (w : World) (ha : 0 ≤ n) (ha' : n ≤ 1099511627776) :
    Calls Try.prog 105 #[.int .i64 n] w fun e w' => e = .returned (.agg #[.int .u64 ((n*n)/18446744073709551616), .int .u64 ((n*n)%18446744073709551616)]) ∧ Grown w w' := by
  go_enter Try.func105, Try.ntmps105
  go_wp2_with (go_at_call 123; refine (mul64_any _ _ _ (by omega) (by omega) (by omega) (by omega)).mono ?_; rintro e w' ⟨rfl, rfl⟩)
  go_returns
  exact ⟨rfl, by go_grown⟩

theorem wide_lt (m n : Int) : m < n ↔ (m/18446744073709551616 < n/18446744073709551616 ∨ (m/18446744073709551616 = n/18446744073709551616 ∧ m%18446744073709551616 < n%18446744073709551616)) := by omega

set_option maxHeartbeats 400000 in
theorem less_any (m n : Int) (w : World) :
    Calls Try.prog 120 #[.agg #[.int .u64 (m/18446744073709551616), .int .u64 (m%18446744073709551616)], .agg #[.int .u64 (n/18446744073709551616), .int .u64 (n%18446744073709551616)]] w fun e w' => e = .returned (.bool (decide (m < n))) ∧ Grown w w' := by
  have ht := wide_lt m n
  rw [show decide (m < n) = decide (m/18446744073709551616 < n/18446744073709551616 ∨ (m/18446744073709551616 = n/18446744073709551616 ∧ m%18446744073709551616 < n%18446744073709551616)) from by simp only [ht]]
  clear ht
  generalize m/18446744073709551616 = p
  generalize m%18446744073709551616 = q
  generalize n/18446744073709551616 = r
  generalize n%18446744073709551616 = s
  by_cases h1 : p < r
  · go_enter Try.func120, Try.ntmps120
    go_wp2
    go_returns
    exact ⟨by simp [h1], by go_grown⟩
  · have h1' : decide (p < r) = false := by simpa using h1
    by_cases h2 : p = r
    · subst h2
      go_enter Try.func120, Try.ntmps120
      go_wp2
      go_returns
      exact ⟨by simp, by go_grown⟩
    · have h2' : (p == r) = false := by simpa using h2
      go_enter Try.func120, Try.ntmps120
      go_wp2
      go_returns
      exact ⟨rfl, by go_grown⟩

set_option maxHeartbeats 400000 in
theorem lessWide_any (m n : Int) (w : World) :
    Calls Try.prog 121 #[.agg #[.int .u64 (m/18446744073709551616), .int .u64 (m%18446744073709551616)], .agg #[.int .u64 (n/18446744073709551616), .int .u64 (n%18446744073709551616)]] w fun e w' => e = .returned (.bool (decide (m < n))) ∧ Grown w w' := by
  have ht := wide_lt m n
  rw [show decide (m < n) = decide (m/18446744073709551616 < n/18446744073709551616 ∨ (m/18446744073709551616 = n/18446744073709551616 ∧ m%18446744073709551616 < n%18446744073709551616)) from by simp only [ht]]
  clear ht
  generalize m/18446744073709551616 = p
  generalize m%18446744073709551616 = q
  generalize n/18446744073709551616 = r
  generalize n%18446744073709551616 = s
  by_cases h1 : p < r
  · go_enter Try.func121, Try.ntmps121
    go_wp2
    go_returns
    exact ⟨by simp [h1], by go_grown⟩
  · have h1' : decide (p < r) = false := by simpa using h1
    by_cases h2 : p = r
    · subst h2
      go_enter Try.func121, Try.ntmps121
      go_wp2
      go_returns
      exact ⟨by simp, by go_grown⟩
    · have h2' : (p == r) = false := by simpa using h2
      go_enter Try.func121, Try.ntmps121
      go_wp2
      go_returns
      exact ⟨rfl, by go_grown⟩

set_option maxHeartbeats 400000 in
theorem plus_any (m b : Int) (w : World) (ha : 0 ≤ m) (ha' : m < 170141183460469231731687303715884105728) (hb : 0 ≤ b) (hb' : b < 18446744073709551616) :
    Calls Try.prog 112 #[.agg #[.int .u64 (m/18446744073709551616), .int .u64 (m%18446744073709551616)], .int .u64 b] w fun e w' => e = .returned (.agg #[.int .u64 ((m+b)/18446744073709551616), .int .u64 ((m+b)%18446744073709551616)]) ∧ Grown w w' := by
  go_enter Try.func112, Try.ntmps112
  go_wp2
  all_goals go_returns
  all_goals simp only [IntKind.wrap_u64] at *
  all_goals exact ⟨ret_wide (by omega) (by omega), by go_grown⟩

set_option maxHeartbeats 400000 in
theorem sum_any (m n : Int) (w : World) (ha : 0 ≤ m) (ha' : m < 42535295865117307932921825928971026432) (hb : 0 ≤ n) (hb' : n < 42535295865117307932921825928971026432) :
    Calls Try.prog 111 #[.agg #[.int .u64 (m/18446744073709551616), .int .u64 (m%18446744073709551616)], .agg #[.int .u64 (n/18446744073709551616), .int .u64 (n%18446744073709551616)]] w fun e w' => e = .returned (.agg #[.int .u64 ((m+n)/18446744073709551616), .int .u64 ((m+n)%18446744073709551616)]) ∧ Grown w w' := by
  go_enter Try.func111, Try.ntmps111
  go_wp2
  all_goals go_returns
  all_goals simp only [IntKind.wrap_u64] at *
  all_goals exact ⟨ret_wide (by omega) (by omega), by go_grown⟩
end Go.Proofs.Ytapfafibhjpkdaa
