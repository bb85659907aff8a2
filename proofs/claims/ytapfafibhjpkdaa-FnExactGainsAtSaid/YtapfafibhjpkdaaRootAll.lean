/-
  What FixRoot and LengthOf answer, in the program and in its specification: the root as IsRoot says it, 0 where an argument is no fixed number.
-/
import Derived.Test.YtapfafibhjpkdaaRoot
namespace Go.Proofs.Ytapfafibhjpkdaa
open Go.ChangeShapes Go.WideShapes Go.ChangeAt Go.RowKit Plain

def aabs (x : Int) : Int := if x < 0 then -x else x
theorem aabs_bd (x : Int) (h : -1099511627776 ≤ x) (h' : x ≤ 1099511627776) : 0 ≤ aabs x ∧ aabs x ≤ 1099511627776 := by unfold aabs; split <;> omega

theorem sabs_any (x : Int) (w : World) (h : -1099511627776 ≤ x) (h' : x ≤ 1099511627776) :
    Calls Try.prog 80 #[.int .i64 x] w fun e w' => e = .returned (.int .i64 (aabs x)) ∧ w' = w := by
  unfold aabs
  rcases Int.lt_or_le x 0 with s | s
  · rw [if_pos s]; exact abs_neg x w s h
  · rw [if_neg (by omega)]; exact abs_pos x w s h'
theorem iabs_any (x : Int) (w : World) (h : -1099511627776 ≤ x) (h' : x ≤ 1099511627776) :
    Calls Try.prog 106 #[.int .i64 x] w fun e w' => e = .returned (.int .i64 (aabs x)) ∧ w' = w := by
  unfold aabs
  rcases Int.lt_or_le x 0 with s | s
  · rw [if_pos s]; exact so_neg x w s h
  · rw [if_neg (by omega)]; exact so_pos x w s h'

theorem iroot_low (n : Int) (w : World) (h : 0 ≤ n) (h' : n < 18446744073709551616) :
    Calls Try.prog 103 #[.agg #[.int .u64 0, .int .u64 n]] w fun e w' => (∃ q : Int, e = .returned (.int .i64 q) ∧ IsRoot n q) ∧ Grown w w' := by
  have := iroot_any n w h
  rw [show n / 18446744073709551616 = 0 from by omega, show n % 18446744073709551616 = n from by omega] at this
  exact this

set_option maxHeartbeats 1000000 in
theorem squares_any (x y : Int) (w : World) (hx : -1099511627776 ≤ x) (hx' : x ≤ 1099511627776) (hy : -1099511627776 ≤ y) (hy' : y ≤ 1099511627776) :
    Calls Try.prog 102 #[.int .i64 x, .int .i64 y] w fun e w' => e = .returned (.agg #[.int .u64 ((aabs x * aabs x + aabs y * aabs y)/18446744073709551616), .int .u64 ((aabs x * aabs x + aabs y * aabs y)%18446744073709551616)]) ∧ Grown w w' := by
  have bx := aabs_bd x hx hx'
  have bY := aabs_bd y hy hy'
  have mx := mul_bd (aabs x) (aabs x) 1099511627776 1099511627776 bx.1 bx.2 bx.1 bx.2
  have my := mul_bd (aabs y) (aabs y) 1099511627776 1099511627776 bY.1 bY.2 bY.1 bY.2
  go_enter Try.func102, Try.ntmps102
  go_wp2_with fail
  refine (sabs_any x _ hx hx').mono ?_
  rintro e w' ⟨rfl, rfl⟩
  go_wp2_with fail
  refine (sabs_any x _ hx hx').mono ?_
  rintro e w' ⟨rfl, rfl⟩
  go_wp2_with fail
  refine (times_any (aabs x) (aabs x) _ (by omega) (by omega) (by omega) (by omega)).mono ?_
  rintro e w1 ⟨rfl, hg1⟩
  go_wp2_with fail
  refine (sabs_any y _ hy hy').mono ?_
  rintro e w' ⟨rfl, rfl⟩
  go_wp2_with fail
  refine (sabs_any y _ hy hy').mono ?_
  rintro e w' ⟨rfl, rfl⟩
  go_wp2_with fail
  refine (times_any (aabs y) (aabs y) _ (by omega) (by omega) (by omega) (by omega)).mono ?_
  rintro e w2 ⟨rfl, hg2⟩
  go_wp2_with fail
  refine (sum_any (aabs x * aabs x) (aabs y * aabs y) _ (by omega) (by omega) (by omega) (by omega)).mono ?_
  rintro e w3 ⟨rfl, hg3⟩
  have g := gtrans (gtrans hg1 hg2) hg3
  have k0 : w3.cell? ⟨w.heap.size, 0, none⟩ = some (.int .u64 0) := by rw [gcell g _ _ (by simp)]; simp [go_sem]
  have k1 : w3.cell? ⟨w.heap.size, 1, none⟩ = some (.int .u64 0) := by rw [gcell g _ _ (by simp)]; simp [go_sem]
  have f0 : w3.frozen? ⟨w.heap.size, 0, none⟩ = false := by rw [g.2.1]; simp [go_sem]
  have f1 : w3.frozen? ⟨w.heap.size, 1, none⟩ = false := by rw [g.2.1]; simp [go_sem]
  go_wp2
  exact bodyPost_ret (v := .agg #[.int .u64 ((aabs x * aabs x + aabs y * aabs y)/18446744073709551616), .int .u64 ((aabs x * aabs x + aabs y * aabs y)%18446744073709551616)]) (by simp [results, Try.results102, go_sem, k0, k1]) rfl ⟨rfl, ((gtrans ((Grown.refl _).alloc _ _) g).setCell (by simp) _).setCell (by simp) _⟩

set_option maxHeartbeats 1000000 in
theorem slen_yes (x y : Int) (w : World) (hx : -1099511627776 ≤ x) (hx' : x ≤ 1099511627776) (hy : -1099511627776 ≤ y) (hy' : y ≤ 1099511627776) :
    Calls Try.prog 62 #[.int .i64 x, .int .i64 y] w fun e w' => (∃ q : Int, e = .returned (.int .i64 q) ∧ IsRoot (aabs x * aabs x + aabs y * aabs y) q) ∧ Grown w w' := by
  have bx := aabs_bd x hx hx'
  have bY := aabs_bd y hy hy'
  have mx := mul_bd (aabs x) (aabs x) 1099511627776 1099511627776 bx.1 bx.2 bx.1 bx.2
  have my := mul_bd (aabs y) (aabs y) 1099511627776 1099511627776 bY.1 bY.2 bY.1 bY.2
  go_enter Try.func62, Try.ntmps62
  go_wp2_with (first
    | (go_at_call 61; refine (gs_yes _ _ (by omega) (by omega)).mono ?_; rintro e w' ⟨rfl, rfl⟩)
    | (go_at_call 102; refine (squares_any x y _ hx hx' hy hy').mono ?_; rintro e w1 ⟨rfl, hg1⟩)
    | (go_at_call 101; refine (sroot_any (aabs x * aabs x + aabs y * aabs y) _ (by omega)).mono ?_; rintro e w2 ⟨⟨q, rfl, hq⟩, hg2⟩; have q0 := hq.1; have q1 := hq.2.1))
  go_ret
  exact ⟨⟨q, rfl, hq⟩, gtrans hg1 hg2⟩

theorem slen_no (a b : Int) (w : World) (h : (a < -1099511627776 ∨ 1099511627776 < a) ∨ (-1099511627776 ≤ a ∧ a ≤ 1099511627776 ∧ (b < -1099511627776 ∨ 1099511627776 < b))) :
    Calls Try.prog 62 #[.int .i64 a, .int .i64 b] w fun e w' => e = .returned (.int .i64 0) ∧ w' = w := by
  rcases h with h | ⟨h1, h2, h⟩
  · go_enter Try.func62, Try.ntmps62
    go_wp2_with fail
    refine (gs_no a _ h).mono ?_
    rintro e w' ⟨rfl, rfl⟩
    go_wp2_with fail
    go_ret
    exact ⟨rfl, rfl⟩
  · go_enter Try.func62, Try.ntmps62
    go_wp2_with fail
    refine (gs_yes a _ h1 h2).mono ?_
    rintro e w' ⟨rfl, rfl⟩
    go_wp2_with fail
    refine (gs_no b _ h).mono ?_
    rintro e w' ⟨rfl, rfl⟩
    go_wp2_with fail
    go_ret
    exact ⟨rfl, rfl⟩

set_option maxHeartbeats 1000000 in
theorem ilen_yes (x y : Int) (w : World) (hx : -1099511627776 ≤ x) (hx' : x ≤ 1099511627776) (hy : -1099511627776 ≤ y) (hy' : y ≤ 1099511627776) :
    Calls Try.prog 66 #[.int .i64 x, .int .i64 y] w fun e w' => (∃ q : Int, e = .returned (.int .i64 q) ∧ IsRoot (aabs x * aabs x + aabs y * aabs y) q) ∧ Grown w w' := by
  have bx := aabs_bd x hx hx'
  have bY := aabs_bd y hy hy'
  have mx := mul_bd (aabs x) (aabs x) 1099511627776 1099511627776 bx.1 bx.2 bx.1 bx.2
  have my := mul_bd (aabs y) (aabs y) 1099511627776 1099511627776 bY.1 bY.2 bY.1 bY.2
  go_enter Try.func66, Try.ntmps66
  go_wp2_with (first
    | (go_at_call 65; refine (gi_yes _ _ (by omega) (by omega)).mono ?_; rintro e w' ⟨rfl, rfl⟩)
    | (go_at_call 106; refine (iabs_any _ _ (by omega) (by omega)).mono ?_; rintro e w' ⟨rfl, rfl⟩)
    | (go_at_call_of 105 (aabs x); refine (squareWide_any (aabs x) _ (by omega) (by omega)).mono ?_; rintro e w1 ⟨rfl, hg1⟩)
    | (go_at_call_of 105 (aabs y); refine (squareWide_any (aabs y) _ (by omega) (by omega)).mono ?_; rintro e w2 ⟨rfl, hg2⟩)
    | (go_at_call 104; refine (addWide_any (aabs x * aabs x) (aabs y * aabs y) _ (by omega) (by omega) (by omega) (by omega)).mono ?_; rintro e w3 ⟨rfl, hg3⟩)
    | (go_at_call 103; refine (iroot_any (aabs x * aabs x + aabs y * aabs y) _ (by omega)).mono ?_; rintro e w4 ⟨⟨q, rfl, hq⟩, hg4⟩))
  go_ret
  exact ⟨⟨q, rfl, hq⟩, gtrans (gtrans (gtrans hg1 hg2) hg3) hg4⟩

theorem ilen_no (a b : Int) (w : World) (h : (a < -1099511627776 ∨ 1099511627776 < a) ∨ (-1099511627776 ≤ a ∧ a ≤ 1099511627776 ∧ (b < -1099511627776 ∨ 1099511627776 < b))) :
    Calls Try.prog 66 #[.int .i64 a, .int .i64 b] w fun e w' => e = .returned (.int .i64 0) ∧ w' = w := by
  rcases h with h | ⟨h1, h2, h⟩
  · go_enter Try.func66, Try.ntmps66
    go_wp2_with fail
    refine (gi_no a _ h).mono ?_
    rintro e w' ⟨rfl, rfl⟩
    go_wp2_with fail
    go_ret
    exact ⟨rfl, rfl⟩
  · go_enter Try.func66, Try.ntmps66
    go_wp2_with fail
    refine (gi_yes a _ h1 h2).mono ?_
    rintro e w' ⟨rfl, rfl⟩
    go_wp2_with fail
    refine (gi_no b _ h).mono ?_
    rintro e w' ⟨rfl, rfl⟩
    go_wp2_with fail
    go_ret
    exact ⟨rfl, rfl⟩
end Go.Proofs.Ytapfafibhjpkdaa
