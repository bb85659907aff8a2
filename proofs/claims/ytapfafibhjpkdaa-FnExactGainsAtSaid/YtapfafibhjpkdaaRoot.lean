/-
  What the roots answer (l1Root, rootDown): the greatest number up to the bound whose square is not above.
-/
import Derived.Test.YtapfafibhjpkdaaMul
namespace Go.Proofs.Ytapfafibhjpkdaa
open Go.ChangeShapes Go.WideShapes Go.ChangeAt Go.RowKit Plain

/-- r is the greatest number in 0..2^40 whose square is at most n. -/
def IsRoot (n r : Int) : Prop := 0 ≤ r ∧ r ≤ 1099511627776 ∧ r * r ≤ n ∧ (r = 1099511627776 ∨ n < (r + 1) * (r + 1))

theorem sq_mono (a b : Int) (h0 : 0 ≤ a) (h : a ≤ b) : a * a ≤ b * b := Int.mul_le_mul h h h0 (by omega)

theorem IsRoot.le {n r s : Int} (h : IsRoot n r) (k : IsRoot n s) : r ≤ s := by
  obtain ⟨h1, h2, h3, _⟩ := h
  obtain ⟨k1, k2, k3, k4⟩ := k
  rcases k4 with rfl | k4
  · exact h2
  · rcases Int.lt_or_le s r with hs | hs
    · have := sq_mono (s + 1) r (by omega) (by omega)
      omega
    · exact hs
theorem IsRoot.eq {n r s : Int} (h : IsRoot n r) (k : IsRoot n s) : r = s := by
  have := h.le k
  have := k.le h
  omega

set_option maxHeartbeats 1000000 in
theorem sroot_any (n : Int) (w : World) (hn : 0 ≤ n) :
    Calls Try.prog 101 #[.agg #[.int .u64 (n/18446744073709551616), .int .u64 (n%18446744073709551616)], .int .u64 1099511627776] w fun e w' => (∃ q : Int, e = .returned (.int .u64 q) ∧ IsRoot n q) ∧ Grown w w' := by
  go_enter Try.func101, Try.ntmps101
  go_wp2
  go_loopw [5, 6] (fun x y wr => ∃ lo hi : Int, x = .int .u64 lo ∧ y = .int .u64 hi ∧ 0 ≤ lo ∧ lo ≤ hi ∧ hi ≤ 1099511627776 ∧ lo * lo ≤ n ∧ (hi = 1099511627776 ∨ n < (hi + 1) * (hi + 1)) ∧ Grown (w.alloc (.cells #[.int .u64 (n/18446744073709551616), .int .u64 (n%18446744073709551616)] 106)) wr) (fun x y _ => (intOf y - intOf x).toNat)
  case atStart => exact ⟨0, 1099511627776, rfl, rfl, by omega, by omega, by omega, by omega, Or.inl rfl, Grown.refl _⟩
  case round =>
    obtain ⟨lo, hi, rfl, rfl, h1, h2, h3, h4, h5, hg⟩ := hrel
    have hz : w.heap.size < wr.heap.size := by have := hg.2.2; simp at this; omega
    have c0 : wr.cell? ⟨w.heap.size, 0, none⟩ = some (.int .u64 (n/18446744073709551616)) := by rw [gcell hg _ _ (by simp)]; simp [go_sem]
    have c1 : wr.cell? ⟨w.heap.size, 1, none⟩ = some (.int .u64 (n%18446744073709551616)) := by rw [gcell hg _ _ (by simp)]; simp [go_sem]
    by_cases hlt : lo < hi
    · go_wp2_with fail
      go_region_with (first
        | (go_at_call 79; refine (times_any _ _ _ (by omega) (by omega) (by omega) (by omega)).mono ?_; rintro e w1 ⟨rfl, hg1⟩; have k0 := (gcell hg1 _ 0 (by exact hz)).trans c0; have k1 := (gcell hg1 _ 1 (by exact hz)).trans c1)
        | (go_at_call 120; refine (less_any n ((lo + (hi - lo + 1) / 2) * (lo + (hi - lo + 1) / 2)) _).mono ?_; rintro e w2 ⟨rfl, hg2⟩))
      all_goals
        by_cases hq : n < (lo + (hi - lo + 1) / 2) * (lo + (hi - lo + 1) / 2)
        · go_wp2
          go_roundw
          case rel => exact ⟨lo, lo + (hi - lo + 1) / 2 - 1, rfl, rfl, by omega, by omega, by omega, h4, Or.inr (by rw [show lo + (hi - lo + 1) / 2 - 1 + 1 = lo + (hi - lo + 1) / 2 from by omega]; exact hq), gtrans (gtrans hg hg1) hg2⟩
          case measure => simp [intOf]; omega
        · go_wp2
          go_roundw
          case rel => exact ⟨lo + (hi - lo + 1) / 2, hi, rfl, rfl, by omega, by omega, by omega, by omega, h5, gtrans (gtrans hg hg1) hg2⟩
          case measure => simp [intOf]; omega
    · go_wp2
      go_ret
      have e : lo = hi := by omega
      subst e
      exact ⟨⟨lo, rfl, h1, h3, h4, h5⟩, gtrans ((Grown.refl _).alloc _ _) hg⟩

def pw : Nat → Int
  | 0 => 1
  | k + 1 => 2 * pw k
theorem pw_pos : ∀ k, 0 < pw k
  | 0 => by decide
  | k + 1 => by have := pw_pos k; unfold pw; omega

theorem lessF (n : Int) (w : World) :
    Calls Try.prog 121 #[.agg #[.int .u64 (n/18446744073709551616), .int .u64 (n%18446744073709551616)], .agg #[.int .u64 65536, .int .u64 0]] w fun e w' => e = .returned (.bool (decide (n < 1208925819614629174706176))) ∧ Grown w w' := by
  have h := lessWide_any n 1208925819614629174706176 w
  rw [show (1208925819614629174706176 : Int) / 18446744073709551616 = 65536 from by decide, show (1208925819614629174706176 : Int) % 18446744073709551616 = 0 from by decide] at h
  exact h

theorem pw40 : pw 40 = 1099511627776 := by decide
theorem pw_half (k : Nat) : pw (k + 1) / 2 = pw k := by show 2 * pw k / 2 = pw k; omega

set_option maxHeartbeats 1000000 in
theorem iroot_great (n : Int) (w : World) (hF : 1208925819614629174706176 ≤ n) :
    Calls Try.prog 103 #[.agg #[.int .u64 (n/18446744073709551616), .int .u64 (n%18446744073709551616)]] w fun e w' => (∃ q : Int, e = .returned (.int .i64 q) ∧ IsRoot n q) ∧ Grown w w' := by
  have hF' : decide (n < 1208925819614629174706176) = false := by simp; omega
  go_enter Try.func103, Try.ntmps103
  go_wp2_with fail
  go_region_with (first
      | (go_at_call 105; refine (squareWide_any 1099511627776 _ (by omega) (by omega)).mono ?_; rintro e w1 ⟨rfl, hg1⟩; have k0 : w1.cell? ⟨w.heap.size, 0, none⟩ = some (.int .u64 (n/18446744073709551616)) := (gcell hg1 _ 0 (by simp)).trans (by simp [go_sem]); have k1 : w1.cell? ⟨w.heap.size, 1, none⟩ = some (.int .u64 (n%18446744073709551616)) := (gcell hg1 _ 1 (by simp)).trans (by simp [go_sem]))
      | (go_at_call 121; refine (lessF n _).mono ?_; rintro e w2 ⟨rfl, hg2⟩))
  all_goals
    go_wp2
    go_ret
    exact ⟨⟨1099511627776, rfl, by omega, by omega, by omega, Or.inl rfl⟩, gtrans (gtrans ((Grown.refl _).alloc _ _) hg1) hg2⟩

set_option maxHeartbeats 4000000 in
theorem iroot_less (n : Int) (w : World) (hn : 0 ≤ n) (hF : n < 1208925819614629174706176) :
    Calls Try.prog 103 #[.agg #[.int .u64 (n/18446744073709551616), .int .u64 (n%18446744073709551616)]] w fun e w' => (∃ q : Int, e = .returned (.int .i64 q) ∧ IsRoot n q) ∧ Grown w w' := by
  go_enter Try.func103, Try.ntmps103
  go_wp2_with fail
  go_region_with (first
      | (go_at_call 105; refine (squareWide_any 1099511627776 _ (by omega) (by omega)).mono ?_; rintro e w1 ⟨rfl, hg1⟩; have k0 : w1.cell? ⟨w.heap.size, 0, none⟩ = some (.int .u64 (n/18446744073709551616)) := (gcell hg1 _ 0 (by simp)).trans (by simp [go_sem]); have k1 : w1.cell? ⟨w.heap.size, 1, none⟩ = some (.int .u64 (n%18446744073709551616)) := (gcell hg1 _ 1 (by simp)).trans (by simp [go_sem]))
      | (go_at_call 121; refine (lessF n _).mono ?_; rintro e w2 ⟨rfl, hg2⟩))
  all_goals
    have g0 : Grown (w.alloc (.cells #[.int .u64 (n/18446744073709551616), .int .u64 (n%18446744073709551616)] 132)) w2 := gtrans hg1 hg2
    clear hg1 hg2 k0 k1
    go_wp2
    go_loopw [3, 4] (fun x y wr => ∃ (k : Nat) (root : Int), x = .int .i64 root ∧ y = .int .i64 (pw k / 2) ∧ 0 ≤ root ∧ root + pw k ≤ 1099511627776 ∧ root * root ≤ n ∧ n < (root + pw k) * (root + pw k) ∧ Grown (w.alloc (.cells #[.int .u64 (n/18446744073709551616), .int .u64 (n%18446744073709551616)] 132)) wr) (fun _ y _ => (intOf y).toNat)
    case atStart => exact ⟨40, 0, rfl, by rw [pw40]; rfl, by omega, by rw [pw40]; omega, by omega, by rw [pw40]; omega, g0⟩
    case round =>
      obtain ⟨k, root, rfl, rfl, h1, h2, h3, h4, hg⟩ := hrel
      have hz : w.heap.size < wr.heap.size := by have := hg.2.2; simp at this; omega
      have c0 : wr.cell? ⟨w.heap.size, 0, none⟩ = some (.int .u64 (n/18446744073709551616)) := by rw [gcell hg _ _ (by simp)]; simp [go_sem]
      have c1 : wr.cell? ⟨w.heap.size, 1, none⟩ = some (.int .u64 (n%18446744073709551616)) := by rw [gcell hg _ _ (by simp)]; simp [go_sem]
      cases k with
      | zero =>
        rw [show pw 0 / 2 = 0 from by decide]
        go_wp2
        go_ret
        exact ⟨⟨root, rfl, h1, by have : pw 0 = 1 := rfl; omega, h3, Or.inr h4⟩, gtrans ((Grown.refl _).alloc _ _) hg⟩
      | succ k =>
        rw [pw_half]
        have hp := pw_pos k
        rw [show pw (k + 1) = 2 * pw k from rfl] at h2 h4
        go_wp2_with fail
        go_region_with (first
          | (go_at_call 105; rw [IntWalk.i64_in (root + pw k) (by omega)]; refine (squareWide_any (root + pw k) _ (by omega) (by omega)).mono ?_; rintro e w3 ⟨rfl, hg3⟩; have k0 := (gcell hg3 _ 0 (by exact hz)).trans c0; have k1 := (gcell hg3 _ 1 (by exact hz)).trans c1)
          | (go_at_call 121; refine (lessWide_any n ((root + pw k) * (root + pw k)) _).mono ?_; rintro e w4 ⟨rfl, hg4⟩))
        all_goals
          go_wp2
          · rename_i hh
            have hq : ¬ n < (root + pw k) * (root + pw k) := by
              intro hlt
              rw [decide_eq_true hlt] at hh
              cases hh
            go_roundw
            case rel => exact ⟨k, root + pw k, rfl, rfl, by omega, by omega, by omega, by rw [show root + pw k + pw k = root + 2 * pw k from by omega]; exact h4, gtrans (gtrans hg hg3) hg4⟩
            case measure => simp [intOf]; omega
          · rename_i hh
            have hq : n < (root + pw k) * (root + pw k) := by
              by_cases hlt : n < (root + pw k) * (root + pw k)
              · exact hlt
              · rw [decide_eq_false hlt] at hh
                cases hh
            go_roundw
            case rel => exact ⟨k, root, rfl, rfl, h1, by omega, h3, hq, gtrans (gtrans hg hg3) hg4⟩
            case measure => simp [intOf]; omega

theorem iroot_any (n : Int) (w : World) (hn : 0 ≤ n) :
    Calls Try.prog 103 #[.agg #[.int .u64 (n/18446744073709551616), .int .u64 (n%18446744073709551616)]] w fun e w' => (∃ q : Int, e = .returned (.int .i64 q) ∧ IsRoot n q) ∧ Grown w w' := by
  rcases Int.lt_or_le n 1208925819614629174706176 with h | h
  · exact iroot_less n w hn h
  · exact iroot_great n w h
end Go.Proofs.Ytapfafibhjpkdaa
