/-
  What Steer answers, in the specification and in the program: the way, cut to a length.
-/
import Derived.Test.YtjpceimaggcncaaRootAll
import Derived.Test.YtjpceimaggcncaaDiv
namespace Go.Proofs.Ytjpceimaggcncaa
open Go.ChangeShapes Go.WideShapes Go.ChangeAt Go.RowKit Plain
set_option maxRecDepth 100000
set_option linter.unusedVariables false

def IsRoot2 (n r : Int) : Prop := 0 ≤ r ∧ r ≤ 2199023255552 ∧ r * r ≤ n ∧ (r = 2199023255552 ∨ n < (r + 1) * (r + 1))
theorem IsRoot2.cut {n r : Int} (h : IsRoot2 n r) (hn : n < 4835703278458516698824704) : IsRoot n (if 1099511627776 < r then 1099511627776 else r) := by
  obtain ⟨h0, h1, h2, h3⟩ := h
  have h4 : n < (r + 1) * (r + 1) := by
    rcases h3 with h3 | h3
    · subst h3; omega
    · exact h3
  split
  · refine ⟨by omega, by omega, ?_, Or.inl rfl⟩
    have := sq_mono 1099511627776 r (by omega) (by omega)
    omega
  · exact ⟨h0, by omega, h2, Or.inr h4⟩
set_option maxHeartbeats 1000000 in
theorem sroot2 (n : Int) (w : World) (hn : 0 ≤ n) :
    Calls Try.prog 68 #[.agg #[.int .u64 (n/18446744073709551616), .int .u64 (n%18446744073709551616)], .int .u64 2199023255552] w fun e w' => (∃ q : Int, e = .returned (.int .u64 q) ∧ IsRoot2 n q) ∧ Grown w w' := by
  go_enter Try.func68, Try.ntmps68
  go_wp2
  go_loopw [5, 6] (fun x y wr => ∃ lo hi : Int, x = .int .u64 lo ∧ y = .int .u64 hi ∧ 0 ≤ lo ∧ lo ≤ hi ∧ hi ≤ 2199023255552 ∧ lo * lo ≤ n ∧ (hi = 2199023255552 ∨ n < (hi + 1) * (hi + 1)) ∧ Grown (w.alloc (.cells #[.int .u64 (n/18446744073709551616), .int .u64 (n%18446744073709551616)] 102)) wr) (fun x y _ => (intOf y - intOf x).toNat)
  case atStart => exact ⟨0, 2199023255552, rfl, rfl, by omega, by omega, by omega, by omega, Or.inl rfl, Grown.refl _⟩
  case round =>
    obtain ⟨lo, hi, rfl, rfl, h1, h2, h3, h4, h5, hg⟩ := hrel
    have hz : w.heap.size < wr.heap.size := by have := hg.2.2; simp at this; omega
    have c0 : wr.cell? ⟨w.heap.size, 0, none⟩ = some (.int .u64 (n/18446744073709551616)) := by rw [gcell hg _ _ (by simp)]; simp [go_sem]
    have c1 : wr.cell? ⟨w.heap.size, 1, none⟩ = some (.int .u64 (n%18446744073709551616)) := by rw [gcell hg _ _ (by simp)]; simp [go_sem]
    by_cases hlt : lo < hi
    · go_wp2_with fail
      go_region_with (first
        | (go_at_call 86; refine (times_any _ _ _ (by omega) (by omega) (by omega) (by omega)).mono ?_; rintro e w1 ⟨rfl, hg1⟩; have k0 := (gcell hg1 _ 0 (by exact hz)).trans c0; have k1 := (gcell hg1 _ 1 (by exact hz)).trans c1)
        | (go_at_call 91; refine (less_any n ((lo + (hi - lo + 1) / 2) * (lo + (hi - lo + 1) / 2)) _).mono ?_; rintro e w2 ⟨rfl, hg2⟩))
      all_goals
        by_cases hq : n < (lo + (hi - lo + 1) / 2) * (lo + (hi - lo + 1) / 2)
        · go_wp2
          go_roundw
          case rel => exact ⟨lo, lo + (hi - lo + 1) / 2 - 1, rfl, rfl, by omega, by omega, by omega, h4, Or.inr (by rw [show lo + (hi - lo + 1) / 2 - 1 + 1 = lo + (hi - lo + 1) / 2 from by omega]; exact hq), gtrans (gtrans hg hg1) hg2⟩
          case measure => simp [intOf]; omega
        · go_wp2
          go_roundw
          case rel => exact ⟨lo + (hi - lo + 1) / 2, hi, rfl, rfl, by omega, by omega, by omega, by omega, h5, gtrans (gtrans hg hg1) hg2⟩
          case measure => simp [intOf]; omega
    · go_wp2
      go_ret
      have e : lo = hi := by omega
      subst e
      exact ⟨⟨lo, rfl, h1, h3, h4, h5⟩, gtrans ((Grown.refl _).alloc _ _) hg⟩

/-- A part of the way, cut. -/
def partI (d m n : Int) : Int := if d < 0 then -(aabs d * m / n) else aabs d * m / n
theorem quot_bd (d m n : Int) (hd : -1099511627776 ≤ d) (hd' : d ≤ 1099511627776) (hn : aabs d ≤ n) (hn' : n ≤ 1099511627776) (hm : 0 ≤ m) (hmn : m < n) : 0 ≤ aabs d * m / n ∧ aabs d * m / n ≤ m := by
  have b := aabs_bd d hd hd'
  have h0 : 0 ≤ aabs d * m := Int.mul_nonneg b.1 hm
  refine ⟨Int.ediv_nonneg h0 (by omega), ?_⟩
  have h1 : aabs d * m ≤ n * m := Int.mul_le_mul_of_nonneg_right hn hm
  have h2 : aabs d * m < (m + 1) * n := by rw [Int.add_mul, Int.one_mul, Int.mul_comm m n]; omega
  have := (Int.ediv_lt_iff_lt_mul (show 0 < n by omega)).2 h2
  omega

theorem scut (d m n : Int) (w : World) (hd : -1099511627776 ≤ d) (hd' : d ≤ 1099511627776) (hn : aabs d ≤ n) (hn' : n ≤ 1099511627776) (hm : 0 ≤ m) (hmn : m < n) :
    Calls Try.prog 70 #[.int .i64 d, .int .i64 m, .int .i64 n] w fun e w' => e = .returned (.int .i64 (partI d m n)) ∧ Grown w w' := by
  have b := aabs_bd d hd hd'
  have qb := quot_bd d m n hd hd' hn hn' hm hmn
  have P0 : 0 ≤ aabs d * m := Int.mul_nonneg b.1 hm
  have HP : Hid (∀ q : Int, 0 ≤ q → q ≤ 1099511627776 → q * n ≤ aabs d * m → (q = 1099511627776 ∨ aabs d * m < (q + 1) * n) → aabs d * m / n = q) := by
    intro q q0 q1 q2 q3
    refine ediv_of _ _ _ (by omega) q2 ?_
    rcases q3 with q3 | q3
    · exfalso
      subst q3
      have h1 : aabs d * m ≤ n * m := Int.mul_le_mul_of_nonneg_right hn hm
      have h2 : n * (m + 1) ≤ n * 1099511627776 := Int.mul_le_mul_of_nonneg_left (by omega) (by omega)
      rw [Int.mul_add, Int.mul_one] at h2
      rw [Int.mul_comm 1099511627776 n] at q2
      omega
    · exact q3
  rcases Int.lt_or_le d 0 with s | s
  all_goals
    go_enter Try.func70, Try.ntmps70
    go_wp2_with (first
      | (go_at_call 87; refine (sabs_any _ _ hd hd').mono ?_; rintro e w' ⟨rfl, rfl⟩)
      | (go_at_call 86; refine (times_any _ _ _ (by omega) (by omega) (by omega) (by omega)).mono ?_; rintro e w1 ⟨rfl, hg1⟩)
      | (go_at_call 93; refine (over_any (aabs d * m) _ _ _ P0 (by omega) (by omega) (by omega) (by omega)).mono ?_; rintro e w2 ⟨⟨q, rfl, q0, q1, q2, q3⟩, hg2⟩))
    go_ret
    refine ⟨retI ?_, gtrans hg1 hg2⟩
    have := HP.out q q0 q1 q2 q3
    unfold partI
    rw [this]
    first | rw [if_pos (by omega)] | rw [if_neg (by omega)]

theorem div64_all (hi lo y : Int) (w : World) (h0 : 0 ≤ hi) (h1 : hi < y) (hl0 : 0 ≤ lo) (hl : lo < 18446744073709551616) (hy : y < 18446744073709551616) :
    Calls Try.prog 99 #[.int .u64 hi, .int .u64 lo, .int .u64 y] w fun e w' => (∃ r : Int, e = .returned (.tuple #[.int .u64 ((hi * 18446744073709551616 + lo) / y), .int .u64 r])) ∧ Grown w w' := by
  rcases Int.lt_or_eq_of_le h0 with h | h
  · exact (div64_any hi lo y w h h1 hl0 hl hy).mono fun _ _ ⟨a, b⟩ => ⟨a, b ▸ Grown.refl _⟩
  · subst h
    have d1 : decide (y ≤ 0) = false := by simp; omega
    have d2 : (y == 0) = false := by simp; omega
    have hq : lo.tdiv y = lo / y := Int.tdiv_eq_ediv_of_nonneg hl0
    have q0 : 0 ≤ lo / y := Int.ediv_nonneg hl0 (by omega)
    have q1 : lo / y ≤ lo := Int.ediv_le_self _ hl0
    go_enter Try.func99, Try.ntmps99
    go_wp2
    go_region
    all_goals (try go_wp2)
    all_goals go_ret2
    all_goals exact ⟨⟨_, ret_two (by rw [Int.zero_mul, Int.zero_add]) rfl⟩, (Grown.refl _).drew⟩

theorem ipart (d m n : Int) (w : World) (hd : -1099511627776 ≤ d) (hd' : d ≤ 1099511627776) (hn : aabs d ≤ n) (hn' : n ≤ 1099511627776) (hm : 0 ≤ m) (hmn : m < n) :
    Calls Try.prog 73 #[.int .i64 d, .int .i64 m, .int .i64 n] w fun e w' => e = .returned (.int .i64 (partI d m n)) ∧ Grown w w' := by
  have b := aabs_bd d hd hd'
  have qb := quot_bd d m n hd hd' hn hn' hm hmn
  have P0 : 0 ≤ aabs d * m := Int.mul_nonneg b.1 hm
  have P1 : aabs d * m ≤ 1099511627776 * 1099511627776 := Int.mul_le_mul b.2 (by omega) hm (by omega)
  have hh : aabs d * m / 18446744073709551616 < n := by
    have h1 : aabs d * m ≤ n * m := Int.mul_le_mul_of_nonneg_right hn hm
    have h2 : n * m < n * 18446744073709551616 := Int.mul_lt_mul_of_pos_left (by omega) (by omega)
    exact (Int.ediv_lt_iff_lt_mul (by omega)).2 (by omega)
  have he : aabs d * m / 18446744073709551616 * 18446744073709551616 + aabs d * m % 18446744073709551616 = aabs d * m := by omega
  rcases Int.lt_or_le d 0 with s | s
  all_goals
    go_enter Try.func73, Try.ntmps73
    go_wp2_with (first
      | (go_at_call 97; refine (iabs_any _ _ hd hd').mono ?_; rintro e w' ⟨rfl, rfl⟩)
      | (go_at_call 98; refine (mul64_any _ _ _ (by omega) (by omega) (by omega) (by omega)).mono ?_; rintro e w' ⟨rfl, rfl⟩)
      | (go_at_call 99; refine (div64_all _ _ n _ (by omega) hh (by omega) (by omega) (by omega)).mono ?_; rw [he]; rintro e w9 ⟨⟨r, rfl⟩, hg9⟩))
    go_ret
    refine ⟨retI ?_, hg9⟩
    unfold partI
    first | rw [if_pos (by omega)] | rw [if_neg (by omega)]
end Go.Proofs.Ytjpceimaggcncaa
