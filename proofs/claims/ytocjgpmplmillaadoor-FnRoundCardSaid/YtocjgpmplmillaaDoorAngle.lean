/-
  What AngleOf answers, in the program and in its specification: the least angle of the greatest reach, 0 where an argument is no fixed number or both are 0.
-/
import Derived.Test.YtocjgpmplmillaaDoorKit
namespace Go.Proofs.YtocjgpmplmillaaDoor
open Go.ChangeShapes Go.WideShapes Go.ChangeAt Go.RowKit

theorem mul_abs (x c m n : Int) (h1 : -m ≤ x) (h2 : x ≤ m) (h3 : -n ≤ c) (h4 : c ≤ n) : -(m * n) ≤ x * c ∧ x * c ≤ m * n := by
  rcases Int.lt_or_le x 0 with sx | sx <;> rcases Int.lt_or_le c 0 with sc | sc
  · have := mul_bd (-x) (-c) m n (by omega) (by omega) (by omega) (by omega)
    rw [Int.neg_mul_neg] at this
    omega
  · have := mul_bd (-x) c m n (by omega) (by omega) (by omega) (by omega)
    rw [Int.neg_mul] at this
    omega
  · have := mul_bd x (-c) m n (by omega) (by omega) (by omega) (by omega)
    rw [Int.mul_neg] at this
    omega
  · have := mul_bd x c m n (by omega) (by omega) (by omega) (by omega)
    omega

theorem cos_bd (x : Int) (a : Int) (h1 : -1099511627776 ≤ x) (h2 : x ≤ 1099511627776) : -72057594037927936 ≤ x * cosM a ∧ x * cosM a ≤ 72057594037927936 := by
  have := mul_abs x (cosM a) 1099511627776 65536 h1 h2 (cosM_bd a).1 (cosM_bd a).2
  omega
theorem sin_bd (x : Int) (a : Int) (h1 : -1099511627776 ≤ x) (h2 : x ≤ 1099511627776) : -72057594037927936 ≤ x * sinM a ∧ x * sinM a ≤ 72057594037927936 := by
  have := mul_abs x (sinM a) 1099511627776 65536 h1 h2 (sinM_bd a).1 (sinM_bd a).2
  omega

/-- The best of the angles below k. -/
def bst (x y : Int) : Nat → Nat
  | 0 => 0
  | k + 1 => if x * cosM (bst x y k) + y * sinM (bst x y k) < x * cosM k + y * sinM k then k else bst x y k
theorem bst_one (x y : Int) : bst x y 1 = 0 := by
  show (if _ then 0 else bst x y 0) = 0
  split <;> rfl
theorem bst_le (x y : Int) : ∀ k, bst x y k ≤ k
  | 0 => Nat.le_refl _
  | k + 1 => by
    have := bst_le x y k
    show (if _ then k else bst x y k) ≤ k + 1
    split <;> omega
theorem bst_yes {x y : Int} {k : Nat} (h : x * cosM (bst x y k) + y * sinM (bst x y k) < x * cosM k + y * sinM k) : bst x y (k + 1) = k := if_pos h
theorem bst_no {x y : Int} {k : Nat} (h : ¬ x * cosM (bst x y k) + y * sinM (bst x y k) < x * cosM k + y * sinM k) : bst x y (k + 1) = bst x y k := if_neg h

theorem reach_any (x y a : Int) (w : World) (hx : -1099511627776 ≤ x) (hx' : x ≤ 1099511627776) (hy : -1099511627776 ≤ y) (hy' : y ≤ 1099511627776) (hT : Tab w) :
    Calls Tryd.prog 31 #[.int .i64 x, .int .i64 y, .int .i64 a] w fun e w' => e = .returned (.int .i64 (x * cosM a + y * sinM a)) ∧ Grown w w' := by
  have b1 := cos_bd x a hx hx'
  have b2 := sin_bd y a hy hy'
  go_enter Tryd.func31, Tryd.ntmps31
  go_wp2_with (first
    | (go_at_call 9; refine (icos_any _ _ hT).mono ?_; rintro e w1 ⟨rfl, hg1⟩; have hT1 := hT.grown hg1)
    | (go_at_call 8; refine (isin_any _ _ hT1).mono ?_; rintro e w2 ⟨rfl, hg2⟩))
  go_ret
  exact ⟨rfl, gtrans hg1 hg2⟩

theorem gs_yes (x : Int) (w : World) (h : -1099511627776 ≤ x) (h' : x ≤ 1099511627776) :
    Calls Tryd.prog 28 #[.int .i64 x] w fun e w' => e = .returned (.bool true) ∧ w' = w := by
  go_enter Tryd.func28, Tryd.ntmps28
  go_wp2
  go_ret
  exact ⟨rfl, rfl⟩

theorem gs_no (x : Int) (w : World) (h : x < -1099511627776 ∨ 1099511627776 < x) :
    Calls Tryd.prog 28 #[.int .i64 x] w fun e w' => e = .returned (.bool false) ∧ w' = w := by
  by_cases h1 : -1099511627776 ≤ x
  · have h2 : decide (x ≤ 1099511627776) = false := by simp; omega
    clear h
    go_enter Tryd.func28, Tryd.ntmps28
    go_wp2
    go_ret
    exact ⟨rfl, rfl⟩
  · have h2 : decide (-1099511627776 ≤ x) = false := by simp; omega
    clear h
    go_enter Tryd.func28, Tryd.ntmps28
    go_wp2
    go_ret
    exact ⟨rfl, rfl⟩

theorem gi_yes (x : Int) (w : World) (h : -1099511627776 ≤ x) (h' : x ≤ 1099511627776) :
    Calls Tryd.prog 26 #[.int .i64 x] w fun e w' => e = .returned (.bool true) ∧ w' = w := by
  go_enter Tryd.func26, Tryd.ntmps26
  go_wp2
  go_ret
  exact ⟨rfl, rfl⟩

theorem gi_no (x : Int) (w : World) (h : x < -1099511627776 ∨ 1099511627776 < x) :
    Calls Tryd.prog 26 #[.int .i64 x] w fun e w' => e = .returned (.bool false) ∧ w' = w := by
  by_cases h1 : -1099511627776 ≤ x
  · have h2 : decide (x ≤ 1099511627776) = false := by simp; omega
    clear h
    go_enter Tryd.func26, Tryd.ntmps26
    go_wp2
    go_ret
    exact ⟨rfl, rfl⟩
  · have h2 : decide (-1099511627776 ≤ x) = false := by simp; omega
    clear h
    go_enter Tryd.func26, Tryd.ntmps26
    go_wp2
    go_ret
    exact ⟨rfl, rfl⟩

theorem sang_bad (a b : Int) (w : World) (h : (a < -1099511627776 ∨ 1099511627776 < a) ∨ (-1099511627776 ≤ a ∧ a ≤ 1099511627776 ∧ (b < -1099511627776 ∨ 1099511627776 < b))) :
    Calls Tryd.prog 16 #[.int .i64 a, .int .i64 b] w fun e w' => e = .returned (.int .i64 0) ∧ w' = w := by
  rcases h with h | ⟨h1, h2, h⟩
  · go_enter Tryd.func16, Tryd.ntmps16
    go_wp2_with fail
    refine (gs_no a _ h).mono ?_
    rintro e w' ⟨rfl, rfl⟩
    go_wp2_with fail
    go_ret
    exact ⟨rfl, rfl⟩
  · go_enter Tryd.func16, Tryd.ntmps16
    go_wp2_with fail
    refine (gs_yes a _ h1 h2).mono ?_
    rintro e w' ⟨rfl, rfl⟩
    go_wp2_with fail
    refine (gs_no b _ h).mono ?_
    rintro e w' ⟨rfl, rfl⟩
    go_wp2_with fail
    go_ret
    exact ⟨rfl, rfl⟩

theorem sang_zero (w : World) :
    Calls Tryd.prog 16 #[.int .i64 0, .int .i64 0] w fun e w' => e = .returned (.int .i64 0) ∧ w' = w := by
  go_enter Tryd.func16, Tryd.ntmps16
  go_wp2_with (go_at_call 28; refine (gs_yes _ _ (by decide) (by decide)).mono ?_; rintro e w' ⟨rfl, rfl⟩)
  go_ret
  exact ⟨rfl, rfl⟩

theorem iang_bad (a b : Int) (w : World) (h : (a < -1099511627776 ∨ 1099511627776 < a) ∨ (-1099511627776 ≤ a ∧ a ≤ 1099511627776 ∧ (b < -1099511627776 ∨ 1099511627776 < b))) :
    Calls Tryd.prog 17 #[.int .i64 a, .int .i64 b] w fun e w' => e = .returned (.int .i64 0) ∧ w' = w := by
  rcases h with h | ⟨h1, h2, h⟩
  · go_enter Tryd.func17, Tryd.ntmps17
    go_wp2_with fail
    refine (gi_no a _ h).mono ?_
    rintro e w' ⟨rfl, rfl⟩
    go_wp2_with fail
    go_ret
    exact ⟨rfl, rfl⟩
  · go_enter Tryd.func17, Tryd.ntmps17
    go_wp2_with fail
    refine (gi_yes a _ h1 h2).mono ?_
    rintro e w' ⟨rfl, rfl⟩
    go_wp2_with fail
    refine (gi_no b _ h).mono ?_
    rintro e w' ⟨rfl, rfl⟩
    go_wp2_with fail
    go_ret
    exact ⟨rfl, rfl⟩

theorem iang_zero (w : World) :
    Calls Tryd.prog 17 #[.int .i64 0, .int .i64 0] w fun e w' => e = .returned (.int .i64 0) ∧ w' = w := by
  go_enter Tryd.func17, Tryd.ntmps17
  go_wp2_with (go_at_call 26; refine (gi_yes _ _ (by decide) (by decide)).mono ?_; rintro e w' ⟨rfl, rfl⟩)
  go_ret
  exact ⟨rfl, rfl⟩

set_option maxRecDepth 100000 in
set_option maxHeartbeats 1000000 in
theorem iang_a (x y : Int) (w : World) (hx : -1099511627776 ≤ x) (hx' : x ≤ 1099511627776) (hy : -1099511627776 ≤ y) (hy' : y ≤ 1099511627776) (z1 : (x == 0) = false) (hT : Tab w) :
    Calls Tryd.prog 17 #[.int .i64 x, .int .i64 y] w fun e w' => e = .returned (.int .i64 (bst x y 4096)) ∧ Grown w w' := by
  go_enter Tryd.func17, Tryd.ntmps17
  go_wp2_with fail
  refine (gi_yes x _ hx hx').mono ?_
  rintro e w' ⟨rfl, rfl⟩
  go_wp2_with fail
  refine (gi_yes y _ hy hy').mono ?_
  rintro e w' ⟨rfl, rfl⟩
  go_wp2_with fail
  refine (reach_any x y 0 _ hx hx' hy hy' hT).mono ?_
  rintro e w1 ⟨rfl, g0⟩
  go_wp2
  go_loopw [5, 6, 28] (fun b m i wr => ∃ k : Nat, k ≤ 4096 ∧ b = .int .i64 (bst x y k) ∧ m = .int .i64 (x * cosM (bst x y k) + y * sinM (bst x y k)) ∧ i = .int .i64 k ∧ Grown w' wr) (fun _ _ i _ => 4096 - (intOf i).toNat)
  case atStart => exact ⟨0, by omega, rfl, rfl, rfl, g0⟩
  case round =>
    obtain ⟨k, hk, rfl, rfl, rfl, hg⟩ := hrel
    by_cases hlt : k < 4096
    · have c3 := cos_bd x k hx hx'
      have c4 := sin_bd y k hy hy'
      have hTr := hT.grown hg
      by_cases hq : x * cosM (bst x y k) + y * sinM (bst x y k) < x * cosM k + y * sinM k
      · have Hb : Hid (bst x y (k + 1) = k) := bst_yes hq
        go_wp2_with (go_at_call 31; refine (reach_any x y k _ hx hx' hy hy' hTr).mono ?_; rintro e w2 ⟨rfl, hg2⟩)
        exact ⟨⟨k + 1, by omega, by rw [Hb.out], by rw [Hb.out], by go_num, gtrans hg hg2⟩, by simp [intOf]; omega⟩
      · have Hb : Hid (bst x y (k + 1) = bst x y k) := bst_no hq
        have dq : decide (x * cosM (bst x y k) + y * sinM (bst x y k) < x * cosM k + y * sinM k) = false := decide_eq_false hq
        go_wp2_with (go_at_call 31; refine (reach_any x y k _ hx hx' hy hy' hTr).mono ?_; rintro e w2 ⟨rfl, hg2⟩)
        exact ⟨⟨k + 1, by omega, by rw [Hb.out], by rw [Hb.out], by go_num, gtrans hg hg2⟩, by simp [intOf]; omega⟩
    · obtain rfl : k = 4096 := by omega
      go_wp2_with fail
      go_ret
      exact ⟨rfl, hg⟩

set_option maxRecDepth 100000 in
set_option maxHeartbeats 1000000 in
theorem iang_b (x y : Int) (w : World) (hx : -1099511627776 ≤ x) (hx' : x ≤ 1099511627776) (hy : -1099511627776 ≤ y) (hy' : y ≤ 1099511627776) (z1 : (x == 0) = true) (z2 : (y == 0) = false) (hT : Tab w) :
    Calls Tryd.prog 17 #[.int .i64 x, .int .i64 y] w fun e w' => e = .returned (.int .i64 (bst x y 4096)) ∧ Grown w w' := by
  go_enter Tryd.func17, Tryd.ntmps17
  go_wp2_with fail
  refine (gi_yes x _ hx hx').mono ?_
  rintro e w' ⟨rfl, rfl⟩
  go_wp2_with fail
  refine (gi_yes y _ hy hy').mono ?_
  rintro e w' ⟨rfl, rfl⟩
  go_wp2_with fail
  refine (reach_any x y 0 _ hx hx' hy hy' hT).mono ?_
  rintro e w1 ⟨rfl, g0⟩
  go_wp2
  go_loopw [5, 6, 28] (fun b m i wr => ∃ k : Nat, k ≤ 4096 ∧ b = .int .i64 (bst x y k) ∧ m = .int .i64 (x * cosM (bst x y k) + y * sinM (bst x y k)) ∧ i = .int .i64 k ∧ Grown w' wr) (fun _ _ i _ => 4096 - (intOf i).toNat)
  case atStart => exact ⟨0, by omega, rfl, rfl, rfl, g0⟩
  case round =>
    obtain ⟨k, hk, rfl, rfl, rfl, hg⟩ := hrel
    by_cases hlt : k < 4096
    · have c3 := cos_bd x k hx hx'
      have c4 := sin_bd y k hy hy'
      have hTr := hT.grown hg
      by_cases hq : x * cosM (bst x y k) + y * sinM (bst x y k) < x * cosM k + y * sinM k
      · have Hb : Hid (bst x y (k + 1) = k) := bst_yes hq
        go_wp2_with (go_at_call 31; refine (reach_any x y k _ hx hx' hy hy' hTr).mono ?_; rintro e w2 ⟨rfl, hg2⟩)
        exact ⟨⟨k + 1, by omega, by rw [Hb.out], by rw [Hb.out], by go_num, gtrans hg hg2⟩, by simp [intOf]; omega⟩
      · have Hb : Hid (bst x y (k + 1) = bst x y k) := bst_no hq
        have dq : decide (x * cosM (bst x y k) + y * sinM (bst x y k) < x * cosM k + y * sinM k) = false := decide_eq_false hq
        go_wp2_with (go_at_call 31; refine (reach_any x y k _ hx hx' hy hy' hTr).mono ?_; rintro e w2 ⟨rfl, hg2⟩)
        exact ⟨⟨k + 1, by omega, by rw [Hb.out], by rw [Hb.out], by go_num, gtrans hg hg2⟩, by simp [intOf]; omega⟩
    · obtain rfl : k = 4096 := by omega
      go_wp2_with fail
      go_ret
      exact ⟨rfl, hg⟩

set_option maxRecDepth 100000 in
set_option maxHeartbeats 1000000 in
theorem sang_a (x y : Int) (w : World) (hx : -1099511627776 ≤ x) (hx' : x ≤ 1099511627776) (hy : -1099511627776 ≤ y) (hy' : y ≤ 1099511627776) (z1 : (x == 0) = false) :
    Calls Tryd.prog 16 #[.int .i64 x, .int .i64 y] w fun e w' => e = .returned (.int .i64 (bst x y 4096)) ∧ Grown w w' := by
  go_enter Tryd.func16, Tryd.ntmps16
  go_wp2_with fail
  refine (gs_yes x _ hx hx').mono ?_
  rintro e w' ⟨rfl, rfl⟩
  go_wp2_with fail
  refine (gs_yes y _ hy hy').mono ?_
  rintro e w' ⟨rfl, rfl⟩
  have c1 := cos_bd x 0 hx hx'
  have c2 := sin_bd y 0 hy hy'
  go_wp2_with (first
    | (go_at_call 11; refine (scos_any _ _ (by omega) (by omega)).mono ?_; rintro e w1 ⟨rfl, g1⟩)
    | (go_at_call 10; refine (ssin_any _ _ (by omega) (by omega)).mono ?_; rintro e w2 ⟨rfl, g2⟩))
  have g0 := gtrans g1 g2
  go_loopw [5, 6, 7] (fun b m i wr => ∃ k : Nat, 1 ≤ k ∧ k ≤ 4096 ∧ b = .int .i64 (bst x y k) ∧ m = .int .i64 (x * cosM (bst x y k) + y * sinM (bst x y k)) ∧ i = .int .i64 k ∧ Grown w' wr) (fun _ _ i _ => 4096 - (intOf i).toNat)
  case atStart => exact ⟨1, by omega, by omega, by rw [bst_one]; rfl, by rw [bst_one]; rfl, rfl, g0⟩
  case round =>
    obtain ⟨k, hk1, hk, rfl, rfl, rfl, hg⟩ := hrel
    by_cases hlt : k < 4096
    · have c3 := cos_bd x k hx hx'
      have c4 := sin_bd y k hy hy'
      by_cases hq : x * cosM (bst x y k) + y * sinM (bst x y k) < x * cosM k + y * sinM k
      · have Hb : Hid (bst x y (k + 1) = k) := bst_yes hq
        go_wp2_with (first
          | (go_at_call 11; refine (scos_any _ _ (by omega) (by omega)).mono ?_; rintro e w3 ⟨rfl, hg3⟩)
          | (go_at_call 10; refine (ssin_any _ _ (by omega) (by omega)).mono ?_; rintro e w4 ⟨rfl, hg4⟩))
        exact ⟨⟨k + 1, by omega, by omega, by rw [Hb.out], by rw [Hb.out], by go_num, gtrans hg (gtrans hg3 hg4)⟩, by simp [intOf]; omega⟩
      · have Hb : Hid (bst x y (k + 1) = bst x y k) := bst_no hq
        have dq : decide (x * cosM (bst x y k) + y * sinM (bst x y k) < x * cosM k + y * sinM k) = false := decide_eq_false hq
        go_wp2_with (first
          | (go_at_call 11; refine (scos_any _ _ (by omega) (by omega)).mono ?_; rintro e w3 ⟨rfl, hg3⟩)
          | (go_at_call 10; refine (ssin_any _ _ (by omega) (by omega)).mono ?_; rintro e w4 ⟨rfl, hg4⟩))
        exact ⟨⟨k + 1, by omega, by omega, by rw [Hb.out], by rw [Hb.out], by go_num, gtrans hg (gtrans hg3 hg4)⟩, by simp [intOf]; omega⟩
    · obtain rfl : k = 4096 := by omega
      go_wp2_with fail
      go_ret
      exact ⟨rfl, hg⟩

set_option maxRecDepth 100000 in
set_option maxHeartbeats 1000000 in
theorem sang_b (x y : Int) (w : World) (hx : -1099511627776 ≤ x) (hx' : x ≤ 1099511627776) (hy : -1099511627776 ≤ y) (hy' : y ≤ 1099511627776) (z1 : (x == 0) = true) (z2 : (y == 0) = false) :
    Calls Tryd.prog 16 #[.int .i64 x, .int .i64 y] w fun e w' => e = .returned (.int .i64 (bst x y 4096)) ∧ Grown w w' := by
  go_enter Tryd.func16, Tryd.ntmps16
  go_wp2_with fail
  refine (gs_yes x _ hx hx').mono ?_
  rintro e w' ⟨rfl, rfl⟩
  go_wp2_with fail
  refine (gs_yes y _ hy hy').mono ?_
  rintro e w' ⟨rfl, rfl⟩
  have c1 := cos_bd x 0 hx hx'
  have c2 := sin_bd y 0 hy hy'
  go_wp2_with (first
    | (go_at_call 11; refine (scos_any _ _ (by omega) (by omega)).mono ?_; rintro e w1 ⟨rfl, g1⟩)
    | (go_at_call 10; refine (ssin_any _ _ (by omega) (by omega)).mono ?_; rintro e w2 ⟨rfl, g2⟩))
  have g0 := gtrans g1 g2
  go_loopw [5, 6, 7] (fun b m i wr => ∃ k : Nat, 1 ≤ k ∧ k ≤ 4096 ∧ b = .int .i64 (bst x y k) ∧ m = .int .i64 (x * cosM (bst x y k) + y * sinM (bst x y k)) ∧ i = .int .i64 k ∧ Grown w' wr) (fun _ _ i _ => 4096 - (intOf i).toNat)
  case atStart => exact ⟨1, by omega, by omega, by rw [bst_one]; rfl, by rw [bst_one]; rfl, rfl, g0⟩
  case round =>
    obtain ⟨k, hk1, hk, rfl, rfl, rfl, hg⟩ := hrel
    by_cases hlt : k < 4096
    · have c3 := cos_bd x k hx hx'
      have c4 := sin_bd y k hy hy'
      by_cases hq : x * cosM (bst x y k) + y * sinM (bst x y k) < x * cosM k + y * sinM k
      · have Hb : Hid (bst x y (k + 1) = k) := bst_yes hq
        go_wp2_with (first
          | (go_at_call 11; refine (scos_any _ _ (by omega) (by omega)).mono ?_; rintro e w3 ⟨rfl, hg3⟩)
          | (go_at_call 10; refine (ssin_any _ _ (by omega) (by omega)).mono ?_; rintro e w4 ⟨rfl, hg4⟩))
        exact ⟨⟨k + 1, by omega, by omega, by rw [Hb.out], by rw [Hb.out], by go_num, gtrans hg (gtrans hg3 hg4)⟩, by simp [intOf]; omega⟩
      · have Hb : Hid (bst x y (k + 1) = bst x y k) := bst_no hq
        have dq : decide (x * cosM (bst x y k) + y * sinM (bst x y k) < x * cosM k + y * sinM k) = false := decide_eq_false hq
        go_wp2_with (first
          | (go_at_call 11; refine (scos_any _ _ (by omega) (by omega)).mono ?_; rintro e w3 ⟨rfl, hg3⟩)
          | (go_at_call 10; refine (ssin_any _ _ (by omega) (by omega)).mono ?_; rintro e w4 ⟨rfl, hg4⟩))
        exact ⟨⟨k + 1, by omega, by omega, by rw [Hb.out], by rw [Hb.out], by go_num, gtrans hg (gtrans hg3 hg4)⟩, by simp [intOf]; omega⟩
    · obtain rfl : k = 4096 := by omega
      go_wp2_with fail
      go_ret
      exact ⟨rfl, hg⟩
end Go.Proofs.YtocjgpmplmillaaDoor
