/-
  What FixMul and FixDiv answer, in the program and in its specification: the same number at every argument.
-/
import Derived.Test.YtapfafibhjpkdaaNear
namespace Go.Proofs.Ytapfafibhjpkdaa
open Go.ChangeShapes Go.WideShapes Go.ChangeAt Go.RowKit Plain

theorem down_neg (a b : Int) (hb : 0 < b) (h : a.tmod b < 0) : a.tdiv b - 1 = a / b := by
  have h0 : a < 0 := by
    rcases Int.lt_or_le a 0 with h1 | h1
    · exact h1
    · have := Int.tmod_nonneg b h1; omega
  have e := Int.mul_tdiv_add_tmod a b
  have hm : -b < a.tmod b := by have := Int.lt_tmod_of_pos a hb; omega
  refine (ediv_of a (a.tdiv b - 1) b hb ?_ ?_).symm
  · rw [Int.sub_mul, Int.mul_comm (a.tdiv b) b]; omega
  · rw [show a.tdiv b - 1 + 1 = a.tdiv b from by omega, Int.mul_comm]; omega
theorem down_pos (a b : Int) (hb : 0 < b) (h : 0 ≤ a.tmod b) : a.tdiv b = a / b := by
  have e := Int.mul_tdiv_add_tmod a b
  have hm : a.tmod b < b := Int.tmod_lt_of_pos a hb
  refine (ediv_of a (a.tdiv b) b hb ?_ ?_).symm
  · rw [Int.mul_comm]; omega
  · rw [Int.add_mul, Int.mul_comm (a.tdiv b) b]; omega
theorem div_bd (a b m : Int) (hb : 0 < b) (h : -m ≤ a) (h' : a ≤ m) : -m ≤ a / b ∧ a / b ≤ m := by
  have e := Int.mul_ediv_add_emod a b
  have h1 := Int.emod_nonneg a (b := b) (by omega)
  have h2 := Int.emod_lt_of_pos a hb
  rcases Int.lt_or_le (a / b) 0 with h3 | h3
  · have : b * (a / b) ≤ 1 * (a / b) := Int.mul_le_mul_of_nonpos_right (by omega) (by omega)
    refine ⟨?_, by omega⟩
    rcases Int.lt_or_le (a / b) (-m) with h4 | h4
    · exfalso
      have h5 : b * (a / b + 1) ≤ 1 * (a / b + 1) := Int.mul_le_mul_of_nonpos_right (by omega) (by omega)
      rw [Int.mul_add] at h5
      omega
    · exact h4
  · have : 1 * (a / b) ≤ b * (a / b) := Int.mul_le_mul_of_nonneg_right (by omega) h3
    refine ⟨by omega, by omega⟩

theorem near_great (p : Int) (h : 72057594037927936 < p ∨ p < -72057594037927936) : nearM p 65536 = if 0 < p then 1099511627776 else -1099511627776 := by
  unfold nearM cutM
  repeat' split
  all_goals omega
theorem near_small (p : Int) (h : p ≤ 72057594037927936) (h' : -72057594037927936 ≤ p) : nearM p 65536 = (2 * p + 65536) / 131072 := by
  unfold nearM cutM
  repeat' split
  all_goals omega

theorem dd_any (a b : Int) (w : World) (ha : -4611686018427387904 ≤ a) (ha' : a ≤ 4611686018427387904) (hb : 0 < b) (hb' : b < 4611686018427387904) :
    Calls Try.prog 69 #[.int .i64 a, .int .i64 b] w fun e w' => e = .returned (.int .i64 (a/b)) ∧ w' = w := by
  have hd := div_bd a b 4611686018427387904 hb ha ha'
  go_enter Try.func69, Try.ntmps69
  go_wp2
  · have e := down_neg a b hb ‹_›
    go_returns
    refine ⟨?_, rfl⟩
    rw [e, IntWalk.wrap64_in _ (by omega)]
    rfl
  · have e := down_pos a b hb ‹_›
    go_returns
    refine ⟨?_, rfl⟩
    rw [e]
    rfl


def goodB (x : Int) : Bool := decide (-1099511627776 ≤ x ∧ x ≤ 1099511627776)

theorem gs_yes (x : Int) (w : World) (h : -1099511627776 ≤ x) (h' : x ≤ 1099511627776) :
    Calls Try.prog 61 #[.int .i64 x] w fun e w' => e = .returned (.bool true) ∧ w' = w := by
  go_enter Try.func61, Try.ntmps61
  go_wp2
  go_ret
  exact ⟨rfl, rfl⟩

theorem gs_no (x : Int) (w : World) (h : x < -1099511627776 ∨ 1099511627776 < x) :
    Calls Try.prog 61 #[.int .i64 x] w fun e w' => e = .returned (.bool false) ∧ w' = w := by
  by_cases h1 : -1099511627776 ≤ x
  · have h2 : decide (x ≤ 1099511627776) = false := by simp; omega
    clear h
    go_enter Try.func61, Try.ntmps61
    go_wp2
    go_ret
    exact ⟨rfl, rfl⟩
  · have h2 : decide (-1099511627776 ≤ x) = false := by simp; omega
    clear h
    go_enter Try.func61, Try.ntmps61
    go_wp2
    go_ret
    exact ⟨rfl, rfl⟩

theorem gi_yes (x : Int) (w : World) (h : -1099511627776 ≤ x) (h' : x ≤ 1099511627776) :
    Calls Try.prog 65 #[.int .i64 x] w fun e w' => e = .returned (.bool true) ∧ w' = w := by
  go_enter Try.func65, Try.ntmps65
  go_wp2
  go_ret
  exact ⟨rfl, rfl⟩

theorem gi_no (x : Int) (w : World) (h : x < -1099511627776 ∨ 1099511627776 < x) :
    Calls Try.prog 65 #[.int .i64 x] w fun e w' => e = .returned (.bool false) ∧ w' = w := by
  by_cases h1 : -1099511627776 ≤ x
  · have h2 : decide (x ≤ 1099511627776) = false := by simp; omega
    clear h
    go_enter Try.func65, Try.ntmps65
    go_wp2
    go_ret
    exact ⟨rfl, rfl⟩
  · have h2 : decide (-1099511627776 ≤ x) = false := by simp; omega
    clear h
    go_enter Try.func65, Try.ntmps65
    go_wp2
    go_ret
    exact ⟨rfl, rfl⟩

theorem abs_pos (x : Int) (w : World) (h : 0 ≤ x) (h' : x ≤ 1099511627776) :
    Calls Try.prog 80 #[.int .i64 x] w fun e w' => e = .returned (.int .i64 x) ∧ w' = w := by
  go_enter Try.func80, Try.ntmps80
  go_wp2
  go_ret
  exact ⟨rfl, rfl⟩

theorem abs_neg (x : Int) (w : World) (h : x < 0) (h' : -1099511627776 ≤ x) :
    Calls Try.prog 80 #[.int .i64 x] w fun e w' => e = .returned (.int .i64 (-x)) ∧ w' = w := by
  go_enter Try.func80, Try.ntmps80
  go_wp2
  go_ret
  exact ⟨rfl, rfl⟩

theorem so_pos (x : Int) (w : World) (h : 0 ≤ x) (h' : x ≤ 1099511627776) :
    Calls Try.prog 106 #[.int .i64 x] w fun e w' => e = .returned (.int .i64 x) ∧ w' = w := by
  go_enter Try.func106, Try.ntmps106
  go_wp2
  go_ret
  exact ⟨rfl, rfl⟩

theorem so_neg (x : Int) (w : World) (h : x < 0) (h' : -1099511627776 ≤ x) :
    Calls Try.prog 106 #[.int .i64 x] w fun e w' => e = .returned (.int .i64 (-x)) ∧ w' = w := by
  go_enter Try.func106, Try.ntmps106
  go_wp2
  go_ret
  exact ⟨rfl, rfl⟩

set_option maxHeartbeats 400000 in
theorem smul_pp (a b : Int) (w : World) (ha : -1099511627776 ≤ a) (ha' : a ≤ 1099511627776) (hb : -1099511627776 ≤ b) (hb' : b ≤ 1099511627776) (sa : 0 ≤ a) (sb : 0 ≤ b) :
    Calls Try.prog 47 #[.int .i64 a, .int .i64 b] w fun e w' => e = .returned (.int .i64 (nearM (a*b) 65536)) ∧ Grown w w' := by
  have hq := mul_bd (a) (b) 1099511627776 1099511627776 (by omega) (by omega) (by omega) (by omega)
  have da : decide (a < 0) = false := by simp; omega
  have db : decide (b < 0) = false := by simp; omega
  go_enter Try.func47, Try.ntmps47
  go_wp2_with (first
    | (go_at_call 61; refine (gs_yes _ _ (by omega) (by omega)).mono ?_; rintro e w' ⟨rfl, rfl⟩)
    | (go_at_call 80; first | (refine (abs_pos _ _ (by omega) (by omega)).mono ?_; rintro e w' ⟨rfl, rfl⟩) | (refine (abs_neg _ _ (by omega) (by omega)).mono ?_; rintro e w' ⟨rfl, rfl⟩))
    | (go_at_call 79; refine (times_any (a) (b) _ (by omega) (by omega) (by omega) (by omega)).mono ?_; rintro e w1 ⟨rfl, hg1⟩)
    | (go_at_call 78; refine (near_pos (a * b) 65536 _ hq.1 (by omega) (by omega) (by omega)).mono ?_; rintro e w2 ⟨rfl, hg2⟩))
  go_ret
  exact ⟨rfl, gtrans hg1 hg2⟩

set_option maxHeartbeats 400000 in
theorem smul_nn (a b : Int) (w : World) (ha : -1099511627776 ≤ a) (ha' : a ≤ 1099511627776) (hb : -1099511627776 ≤ b) (hb' : b ≤ 1099511627776) (sa : a < 0) (sb : b < 0) :
    Calls Try.prog 47 #[.int .i64 a, .int .i64 b] w fun e w' => e = .returned (.int .i64 (nearM (a*b) 65536)) ∧ Grown w w' := by
  have hq := mul_bd (-a) (-b) 1099511627776 1099511627776 (by omega) (by omega) (by omega) (by omega)
  have he0 : (-a * -b) = a * b := by rw [Int.neg_mul_neg]
  have he : Hid ((-a * -b) = a * b) := he0
  clear he0
  go_enter Try.func47, Try.ntmps47
  go_wp2_with (first
    | (go_at_call 61; refine (gs_yes _ _ (by omega) (by omega)).mono ?_; rintro e w' ⟨rfl, rfl⟩)
    | (go_at_call 80; first | (refine (abs_pos _ _ (by omega) (by omega)).mono ?_; rintro e w' ⟨rfl, rfl⟩) | (refine (abs_neg _ _ (by omega) (by omega)).mono ?_; rintro e w' ⟨rfl, rfl⟩))
    | (go_at_call 79; refine (times_any (-a) (-b) _ (by omega) (by omega) (by omega) (by omega)).mono ?_; rintro e w1 ⟨rfl, hg1⟩)
    | (go_at_call 78; refine (near_pos (-a * -b) 65536 _ hq.1 (by omega) (by omega) (by omega)).mono ?_; rintro e w2 ⟨rfl, hg2⟩))
  go_ret
  exact ⟨retI (by rw [he.out]), gtrans hg1 hg2⟩

set_option maxHeartbeats 400000 in
theorem smul_np (a b : Int) (w : World) (ha : -1099511627776 ≤ a) (ha' : a ≤ 1099511627776) (hb : -1099511627776 ≤ b) (hb' : b ≤ 1099511627776) (sa : a < 0) (sb : 0 ≤ b) :
    Calls Try.prog 47 #[.int .i64 a, .int .i64 b] w fun e w' => e = .returned (.int .i64 (nearM (a*b) 65536)) ∧ Grown w w' := by
  have hq := mul_bd (-a) (b) 1099511627776 1099511627776 (by omega) (by omega) (by omega) (by omega)
  have he0 : -(-a * b) = a * b := by rw [Int.neg_mul, Int.neg_neg]
  have he : Hid (-(-a * b) = a * b) := he0
  clear he0
  have db : decide (b < 0) = false := by simp; omega
  go_enter Try.func47, Try.ntmps47
  go_wp2_with (first
    | (go_at_call 61; refine (gs_yes _ _ (by omega) (by omega)).mono ?_; rintro e w' ⟨rfl, rfl⟩)
    | (go_at_call 80; first | (refine (abs_pos _ _ (by omega) (by omega)).mono ?_; rintro e w' ⟨rfl, rfl⟩) | (refine (abs_neg _ _ (by omega) (by omega)).mono ?_; rintro e w' ⟨rfl, rfl⟩))
    | (go_at_call 79; refine (times_any (-a) (b) _ (by omega) (by omega) (by omega) (by omega)).mono ?_; rintro e w1 ⟨rfl, hg1⟩)
    | (go_at_call 78; refine (near_neg (-a * b) 65536 _ hq.1 (by omega) (by omega) (by omega)).mono ?_; rintro e w2 ⟨rfl, hg2⟩))
  go_ret
  exact ⟨retI (by rw [he.out]), gtrans hg1 hg2⟩

set_option maxHeartbeats 400000 in
theorem smul_pn (a b : Int) (w : World) (ha : -1099511627776 ≤ a) (ha' : a ≤ 1099511627776) (hb : -1099511627776 ≤ b) (hb' : b ≤ 1099511627776) (sa : 0 ≤ a) (sb : b < 0) :
    Calls Try.prog 47 #[.int .i64 a, .int .i64 b] w fun e w' => e = .returned (.int .i64 (nearM (a*b) 65536)) ∧ Grown w w' := by
  have hq := mul_bd (a) (-b) 1099511627776 1099511627776 (by omega) (by omega) (by omega) (by omega)
  have he0 : -(a * -b) = a * b := by rw [Int.mul_neg, Int.neg_neg]
  have he : Hid (-(a * -b) = a * b) := he0
  clear he0
  have da : decide (a < 0) = false := by simp; omega
  go_enter Try.func47, Try.ntmps47
  go_wp2_with (first
    | (go_at_call 61; refine (gs_yes _ _ (by omega) (by omega)).mono ?_; rintro e w' ⟨rfl, rfl⟩)
    | (go_at_call 80; first | (refine (abs_pos _ _ (by omega) (by omega)).mono ?_; rintro e w' ⟨rfl, rfl⟩) | (refine (abs_neg _ _ (by omega) (by omega)).mono ?_; rintro e w' ⟨rfl, rfl⟩))
    | (go_at_call 79; refine (times_any (a) (-b) _ (by omega) (by omega) (by omega) (by omega)).mono ?_; rintro e w1 ⟨rfl, hg1⟩)
    | (go_at_call 78; refine (near_neg (a * -b) 65536 _ hq.1 (by omega) (by omega) (by omega)).mono ?_; rintro e w2 ⟨rfl, hg2⟩))
  go_ret
  exact ⟨retI (by rw [he.out]), gtrans hg1 hg2⟩

set_option maxHeartbeats 400000 in
theorem sdiv_pp (a b : Int) (w : World) (ha : -1099511627776 ≤ a) (ha' : a ≤ 1099511627776) (hb : -1099511627776 ≤ b) (hb' : b ≤ 1099511627776) (sa : 0 ≤ a) (sb : 0 < b) :
    Calls Try.prog 63 #[.int .i64 a, .int .i64 b] w fun e w' => e = .returned (.int .i64 (nearM (a * 65536) (b))) ∧ Grown w w' := by
  have dz : (b == 0) = false := beq_eq_false_iff_ne.2 (by omega)
  have da : decide (a < 0) = false := by simp; omega
  have db : decide (b < 0) = false := by simp; omega
  go_enter Try.func63, Try.ntmps63
  go_wp2_with (first
    | (go_at_call 61; refine (gs_yes _ _ (by omega) (by omega)).mono ?_; rintro e w' ⟨rfl, rfl⟩)
    | (go_at_call 80; first | (refine (abs_pos _ _ (by omega) (by omega)).mono ?_; rintro e w' ⟨rfl, rfl⟩) | (refine (abs_neg _ _ (by omega) (by omega)).mono ?_; rintro e w' ⟨rfl, rfl⟩))
    | (go_at_call 79; refine (times_any (a) 65536 _ (by omega) (by omega) (by omega) (by omega)).mono ?_; rintro e w1 ⟨rfl, hg1⟩)
    | (go_at_call 78; refine (near_pos (a * 65536) (b) _ (by omega) (by omega) (by omega) (by omega)).mono ?_; rintro e w2 ⟨rfl, hg2⟩))
  go_ret
  exact ⟨retI (by rw [show (a * 65536) = a * 65536 from by omega]), gtrans hg1 hg2⟩

set_option maxHeartbeats 400000 in
theorem sdiv_nn (a b : Int) (w : World) (ha : -1099511627776 ≤ a) (ha' : a ≤ 1099511627776) (hb : -1099511627776 ≤ b) (hb' : b ≤ 1099511627776) (sa : a < 0) (sb : b < 0) :
    Calls Try.prog 63 #[.int .i64 a, .int .i64 b] w fun e w' => e = .returned (.int .i64 (nearM (-a * 65536) (-b))) ∧ Grown w w' := by
  have dz : (b == 0) = false := beq_eq_false_iff_ne.2 (by omega)
  go_enter Try.func63, Try.ntmps63
  go_wp2_with (first
    | (go_at_call 61; refine (gs_yes _ _ (by omega) (by omega)).mono ?_; rintro e w' ⟨rfl, rfl⟩)
    | (go_at_call 80; first | (refine (abs_pos _ _ (by omega) (by omega)).mono ?_; rintro e w' ⟨rfl, rfl⟩) | (refine (abs_neg _ _ (by omega) (by omega)).mono ?_; rintro e w' ⟨rfl, rfl⟩))
    | (go_at_call 79; refine (times_any (-a) 65536 _ (by omega) (by omega) (by omega) (by omega)).mono ?_; rintro e w1 ⟨rfl, hg1⟩)
    | (go_at_call 78; refine (near_pos (-a * 65536) (-b) _ (by omega) (by omega) (by omega) (by omega)).mono ?_; rintro e w2 ⟨rfl, hg2⟩))
  go_ret
  exact ⟨retI (by rw [show (-a * 65536) = -a * 65536 from by omega]), gtrans hg1 hg2⟩

set_option maxHeartbeats 400000 in
theorem sdiv_np (a b : Int) (w : World) (ha : -1099511627776 ≤ a) (ha' : a ≤ 1099511627776) (hb : -1099511627776 ≤ b) (hb' : b ≤ 1099511627776) (sa : a < 0) (sb : 0 < b) :
    Calls Try.prog 63 #[.int .i64 a, .int .i64 b] w fun e w' => e = .returned (.int .i64 (nearM (a * 65536) (b))) ∧ Grown w w' := by
  have dz : (b == 0) = false := beq_eq_false_iff_ne.2 (by omega)
  have db : decide (b < 0) = false := by simp; omega
  go_enter Try.func63, Try.ntmps63
  go_wp2_with (first
    | (go_at_call 61; refine (gs_yes _ _ (by omega) (by omega)).mono ?_; rintro e w' ⟨rfl, rfl⟩)
    | (go_at_call 80; first | (refine (abs_pos _ _ (by omega) (by omega)).mono ?_; rintro e w' ⟨rfl, rfl⟩) | (refine (abs_neg _ _ (by omega) (by omega)).mono ?_; rintro e w' ⟨rfl, rfl⟩))
    | (go_at_call 79; refine (times_any (-a) 65536 _ (by omega) (by omega) (by omega) (by omega)).mono ?_; rintro e w1 ⟨rfl, hg1⟩)
    | (go_at_call 78; refine (near_neg (-a * 65536) (b) _ (by omega) (by omega) (by omega) (by omega)).mono ?_; rintro e w2 ⟨rfl, hg2⟩))
  go_ret
  exact ⟨retI (by rw [show -(-a * 65536) = a * 65536 from by omega]), gtrans hg1 hg2⟩

set_option maxHeartbeats 400000 in
theorem sdiv_pn (a b : Int) (w : World) (ha : -1099511627776 ≤ a) (ha' : a ≤ 1099511627776) (hb : -1099511627776 ≤ b) (hb' : b ≤ 1099511627776) (sa : 0 ≤ a) (sb : b < 0) :
    Calls Try.prog 63 #[.int .i64 a, .int .i64 b] w fun e w' => e = .returned (.int .i64 (nearM (-a * 65536) (-b))) ∧ Grown w w' := by
  have dz : (b == 0) = false := beq_eq_false_iff_ne.2 (by omega)
  have da : decide (a < 0) = false := by simp; omega
  go_enter Try.func63, Try.ntmps63
  go_wp2_with (first
    | (go_at_call 61; refine (gs_yes _ _ (by omega) (by omega)).mono ?_; rintro e w' ⟨rfl, rfl⟩)
    | (go_at_call 80; first | (refine (abs_pos _ _ (by omega) (by omega)).mono ?_; rintro e w' ⟨rfl, rfl⟩) | (refine (abs_neg _ _ (by omega) (by omega)).mono ?_; rintro e w' ⟨rfl, rfl⟩))
    | (go_at_call 79; refine (times_any (a) 65536 _ (by omega) (by omega) (by omega) (by omega)).mono ?_; rintro e w1 ⟨rfl, hg1⟩)
    | (go_at_call 78; refine (near_neg (a * 65536) (-b) _ (by omega) (by omega) (by omega) (by omega)).mono ?_; rintro e w2 ⟨rfl, hg2⟩))
  go_ret
  exact ⟨retI (by rw [show -(a * 65536) = -a * 65536 from by omega]), gtrans hg1 hg2⟩

theorem dn_any (n b : Int) (w : World) (h1 : -1152921504606846976 ≤ n) (h2 : n ≤ 1152921504606846976) (hb : 0 < b) (hb' : b ≤ 1099511627776) :
    Calls Try.prog 108 #[.int .i64 n, .int .i64 b] w fun e w' => e = .returned (.int .i64 ((2 * n + b) / (2 * b))) ∧ w' = w := by
  go_enter Try.func108, Try.ntmps108
  go_wp2_with (go_at_call 69; refine (dd_any _ _ _ (by omega) (by omega) (by omega) (by omega)).mono ?_; rintro e w' ⟨rfl, rfl⟩)
  go_ret
  exact ⟨rfl, rfl⟩

theorem icut_any (n : Int) (w : World) (h1 : -4611686018427387904 ≤ n) (h2 : n ≤ 4611686018427387904) :
    Calls Try.prog 107 #[.int .i64 n] w fun e w' => e = .returned (.int .i64 (cutM n)) ∧ w' = w := by
  by_cases c1 : 1099511627776 < n
  · go_enter Try.func107, Try.ntmps107
    go_wp2
    go_ret
    exact ⟨retI (by unfold cutM; rw [if_pos (by omega)]), rfl⟩
  · by_cases c2 : n < -1099511627776
    · go_enter Try.func107, Try.ntmps107
      go_wp2
      go_ret
      exact ⟨retI (by unfold cutM; rw [if_neg (by omega), if_pos (by omega)]), rfl⟩
    · have c3 : -1099511627776 ≤ n := by omega
      have c4 : n ≤ 1099511627776 := by omega
      clear c1 c2
      go_enter Try.func107, Try.ntmps107
      go_wp2
      all_goals go_ret
      all_goals exact ⟨retI (by unfold cutM; repeat' split; all_goals omega), rfl⟩

set_option maxHeartbeats 400000 in
theorem idiv_p (a b : Int) (w : World) (ha : -1099511627776 ≤ a) (ha' : a ≤ 1099511627776) (hb : -1099511627776 ≤ b) (hb' : b ≤ 1099511627776) (sb : 0 < b) :
    Calls Try.prog 67 #[.int .i64 a, .int .i64 b] w fun e w' => e = .returned (.int .i64 (nearM (a * 65536) (b))) ∧ w' = w := by
  have dz : (b == 0) = false := beq_eq_false_iff_ne.2 (by omega)
  have hd := div_bd (2 * (a * 65536) + (b)) (2 * (b)) 4611686018427387904 (by omega) (by omega) (by omega)
  go_enter Try.func67, Try.ntmps67
  go_wp2_with (first
    | (go_at_call 65; refine (gi_yes _ _ (by omega) (by omega)).mono ?_; rintro e w' ⟨rfl, rfl⟩)
    | (go_at_call 108; refine (dn_any (a * 65536) (b) _ (by omega) (by omega) (by omega) (by omega)).mono ?_; rintro e w' ⟨rfl, rfl⟩)
    | (go_at_call 107; refine (icut_any _ _ (by omega) (by omega)).mono ?_; rintro e w' ⟨rfl, rfl⟩))
  go_ret
  exact ⟨rfl, rfl⟩

set_option maxHeartbeats 400000 in
theorem idiv_n (a b : Int) (w : World) (ha : -1099511627776 ≤ a) (ha' : a ≤ 1099511627776) (hb : -1099511627776 ≤ b) (hb' : b ≤ 1099511627776) (sb : b < 0) :
    Calls Try.prog 67 #[.int .i64 a, .int .i64 b] w fun e w' => e = .returned (.int .i64 (nearM (-a * 65536) (-b))) ∧ w' = w := by
  have dz : (b == 0) = false := beq_eq_false_iff_ne.2 (by omega)
  have hd := div_bd (2 * (-a * 65536) + (-b)) (2 * (-b)) 4611686018427387904 (by omega) (by omega) (by omega)
  go_enter Try.func67, Try.ntmps67
  go_wp2_with (first
    | (go_at_call 65; refine (gi_yes _ _ (by omega) (by omega)).mono ?_; rintro e w' ⟨rfl, rfl⟩)
    | (go_at_call 108; refine (dn_any (-a * 65536) (-b) _ (by omega) (by omega) (by omega) (by omega)).mono ?_; rintro e w' ⟨rfl, rfl⟩)
    | (go_at_call 107; refine (icut_any _ _ (by omega) (by omega)).mono ?_; rintro e w' ⟨rfl, rfl⟩))
  go_ret
  exact ⟨rfl, rfl⟩

theorem so_neg' (x : Int) (w : World) (h : 0 < x) (h' : x ≤ 1099511627776) :
    Calls Try.prog 106 #[.int .i64 (-x)] w fun e w' => e = .returned (.int .i64 x) ∧ w' = w := by
  refine (so_neg (-x) w (by omega) (by omega)).mono ?_
  rintro e w' ⟨rfl, rfl⟩
  exact ⟨retI (by omega), rfl⟩

set_option maxHeartbeats 400000 in
theorem imul_pp (a b : Int) (w : World) (ha : 0 < a) (ha' : a ≤ 1099511627776) (hb : 0 < b) (hb' : b ≤ 1099511627776) :
    Calls Try.prog 68 #[.int .i64 (a), .int .i64 (b)] w fun e w' => e = .returned (.int .i64 (nearM (a * b) 65536)) ∧ w' = w := by
  have hz : (a == 0) = false := beq_eq_false_iff_ne.2 (by omega)
  have dz : (b == 0) = false := beq_eq_false_iff_ne.2 (by omega)
  have hz' : (-a == 0) = false := beq_eq_false_iff_ne.2 (by omega)
  have dz' : (-b == 0) = false := beq_eq_false_iff_ne.2 (by omega)
  have da : decide (a < 0) = false := by simp; omega
  have db : decide (b < 0) = false := by simp; omega
  by_cases ht : 72057594037927936 / b < a
  · have hp : 72057594037927936 < a * b := (Int.ediv_lt_iff_lt_mul (by omega)).1 ht
    have hr := near_great (a * b) (by omega)
    have Hr : Hid _ := hr
    clear hr
    go_enter Try.func68, Try.ntmps68
    go_wp2_with (first
      | (go_at_call 65; refine (gi_yes _ _ (by omega) (by omega)).mono ?_; rintro e w' ⟨rfl, rfl⟩)
      | (go_at_call 106; first | (refine (so_pos _ _ (by omega) (by omega)).mono ?_; rintro e w' ⟨rfl, rfl⟩) | (refine (so_neg' _ _ (by omega) (by omega)).mono ?_; rintro e w' ⟨rfl, rfl⟩)))
    go_ret
    exact ⟨retI (by rw [Hr.out]; first | rw [if_pos (by omega)] | rw [if_neg (by omega)]), rfl⟩
  · have hp : a * b ≤ 72057594037927936 := (Int.le_ediv_iff_mul_le (by omega)).1 (by omega)
    have hn : 0 ≤ a * b := Int.mul_nonneg (by omega) (by omega)
    have hd : decide (72057594037927936 / b < a) = false := by simpa using ht
    clear ht
    have hr := near_small (a * b) (by omega) (by omega)
    have Hr : Hid _ := hr
    clear hr
    go_enter Try.func68, Try.ntmps68
    go_wp2_with (first
      | (go_at_call 65; refine (gi_yes _ _ (by omega) (by omega)).mono ?_; rintro e w' ⟨rfl, rfl⟩)
      | (go_at_call 106; first | (refine (so_pos _ _ (by omega) (by omega)).mono ?_; rintro e w' ⟨rfl, rfl⟩) | (refine (so_neg' _ _ (by omega) (by omega)).mono ?_; rintro e w' ⟨rfl, rfl⟩))
      | (go_at_call 108; refine (dn_any _ 65536 _ (by omega) (by omega) (by omega) (by omega)).mono ?_; rintro e w' ⟨rfl, rfl⟩))
    go_ret
    exact ⟨retI (by rw [Hr.out]), rfl⟩

set_option maxHeartbeats 400000 in
theorem imul_nn (a b : Int) (w : World) (ha : 0 < a) (ha' : a ≤ 1099511627776) (hb : 0 < b) (hb' : b ≤ 1099511627776) :
    Calls Try.prog 68 #[.int .i64 (-a), .int .i64 (-b)] w fun e w' => e = .returned (.int .i64 (nearM (a * b) 65536)) ∧ w' = w := by
  have hz : (a == 0) = false := beq_eq_false_iff_ne.2 (by omega)
  have dz : (b == 0) = false := beq_eq_false_iff_ne.2 (by omega)
  have hz' : (-a == 0) = false := beq_eq_false_iff_ne.2 (by omega)
  have dz' : (-b == 0) = false := beq_eq_false_iff_ne.2 (by omega)
  by_cases ht : 72057594037927936 / b < a
  · have hp : 72057594037927936 < a * b := (Int.ediv_lt_iff_lt_mul (by omega)).1 ht
    have hr := near_great (a * b) (by omega)
    have Hr : Hid _ := hr
    clear hr
    go_enter Try.func68, Try.ntmps68
    go_wp2_with (first
      | (go_at_call 65; refine (gi_yes _ _ (by omega) (by omega)).mono ?_; rintro e w' ⟨rfl, rfl⟩)
      | (go_at_call 106; first | (refine (so_pos _ _ (by omega) (by omega)).mono ?_; rintro e w' ⟨rfl, rfl⟩) | (refine (so_neg' _ _ (by omega) (by omega)).mono ?_; rintro e w' ⟨rfl, rfl⟩)))
    go_ret
    exact ⟨retI (by rw [Hr.out]; first | rw [if_pos (by omega)] | rw [if_neg (by omega)]), rfl⟩
  · have hp : a * b ≤ 72057594037927936 := (Int.le_ediv_iff_mul_le (by omega)).1 (by omega)
    have hn : 0 ≤ a * b := Int.mul_nonneg (by omega) (by omega)
    have hx1 : -a * -b ≤ 72057594037927936 := by rw [Int.neg_mul_neg]; omega
    have hx2 : -72057594037927936 ≤ -a * -b := by rw [Int.neg_mul_neg]; omega
    have hd : decide (72057594037927936 / b < a) = false := by simpa using ht
    clear ht
    have hr := near_small (a * b) (by omega) (by omega)
    have Hr : Hid _ := hr
    clear hr
    go_enter Try.func68, Try.ntmps68
    go_wp2_with (first
      | (go_at_call 65; refine (gi_yes _ _ (by omega) (by omega)).mono ?_; rintro e w' ⟨rfl, rfl⟩)
      | (go_at_call 106; first | (refine (so_pos _ _ (by omega) (by omega)).mono ?_; rintro e w' ⟨rfl, rfl⟩) | (refine (so_neg' _ _ (by omega) (by omega)).mono ?_; rintro e w' ⟨rfl, rfl⟩))
      | (go_at_call 108; refine (dn_any _ 65536 _ (by omega) (by omega) (by omega) (by omega)).mono ?_; rintro e w' ⟨rfl, rfl⟩))
    go_ret
    exact ⟨retI (by rw [Hr.out]; first | rfl | rw [Int.neg_mul_neg]), rfl⟩

set_option maxHeartbeats 400000 in
theorem imul_np (a b : Int) (w : World) (ha : 0 < a) (ha' : a ≤ 1099511627776) (hb : 0 < b) (hb' : b ≤ 1099511627776) :
    Calls Try.prog 68 #[.int .i64 (-a), .int .i64 (b)] w fun e w' => e = .returned (.int .i64 (nearM (-(a * b)) 65536)) ∧ w' = w := by
  have hz : (a == 0) = false := beq_eq_false_iff_ne.2 (by omega)
  have dz : (b == 0) = false := beq_eq_false_iff_ne.2 (by omega)
  have hz' : (-a == 0) = false := beq_eq_false_iff_ne.2 (by omega)
  have dz' : (-b == 0) = false := beq_eq_false_iff_ne.2 (by omega)
  have db : decide (b < 0) = false := by simp; omega
  by_cases ht : 72057594037927936 / b < a
  · have hp : 72057594037927936 < a * b := (Int.ediv_lt_iff_lt_mul (by omega)).1 ht
    have hr := near_great (-(a * b)) (by omega)
    have Hr : Hid _ := hr
    clear hr
    go_enter Try.func68, Try.ntmps68
    go_wp2_with (first
      | (go_at_call 65; refine (gi_yes _ _ (by omega) (by omega)).mono ?_; rintro e w' ⟨rfl, rfl⟩)
      | (go_at_call 106; first | (refine (so_pos _ _ (by omega) (by omega)).mono ?_; rintro e w' ⟨rfl, rfl⟩) | (refine (so_neg' _ _ (by omega) (by omega)).mono ?_; rintro e w' ⟨rfl, rfl⟩)))
    go_ret
    exact ⟨retI (by rw [Hr.out]; first | rw [if_pos (by omega)] | rw [if_neg (by omega)]), rfl⟩
  · have hp : a * b ≤ 72057594037927936 := (Int.le_ediv_iff_mul_le (by omega)).1 (by omega)
    have hn : 0 ≤ a * b := Int.mul_nonneg (by omega) (by omega)
    have hx1 : -a * b ≤ 72057594037927936 := by rw [Int.neg_mul]; omega
    have hx2 : -72057594037927936 ≤ -a * b := by rw [Int.neg_mul]; omega
    have hd : decide (72057594037927936 / b < a) = false := by simpa using ht
    clear ht
    have hr := near_small (-(a * b)) (by omega) (by omega)
    have Hr : Hid _ := hr
    clear hr
    go_enter Try.func68, Try.ntmps68
    go_wp2_with (first
      | (go_at_call 65; refine (gi_yes _ _ (by omega) (by omega)).mono ?_; rintro e w' ⟨rfl, rfl⟩)
      | (go_at_call 106; first | (refine (so_pos _ _ (by omega) (by omega)).mono ?_; rintro e w' ⟨rfl, rfl⟩) | (refine (so_neg' _ _ (by omega) (by omega)).mono ?_; rintro e w' ⟨rfl, rfl⟩))
      | (go_at_call 108; refine (dn_any _ 65536 _ (by omega) (by omega) (by omega) (by omega)).mono ?_; rintro e w' ⟨rfl, rfl⟩))
    go_ret
    exact ⟨retI (by rw [Hr.out]; first | rfl | rw [Int.neg_mul]), rfl⟩

set_option maxHeartbeats 400000 in
theorem imul_pn (a b : Int) (w : World) (ha : 0 < a) (ha' : a ≤ 1099511627776) (hb : 0 < b) (hb' : b ≤ 1099511627776) :
    Calls Try.prog 68 #[.int .i64 (a), .int .i64 (-b)] w fun e w' => e = .returned (.int .i64 (nearM (-(a * b)) 65536)) ∧ w' = w := by
  have hz : (a == 0) = false := beq_eq_false_iff_ne.2 (by omega)
  have dz : (b == 0) = false := beq_eq_false_iff_ne.2 (by omega)
  have hz' : (-a == 0) = false := beq_eq_false_iff_ne.2 (by omega)
  have dz' : (-b == 0) = false := beq_eq_false_iff_ne.2 (by omega)
  have da : decide (a < 0) = false := by simp; omega
  by_cases ht : 72057594037927936 / b < a
  · have hp : 72057594037927936 < a * b := (Int.ediv_lt_iff_lt_mul (by omega)).1 ht
    have hr := near_great (-(a * b)) (by omega)
    have Hr : Hid _ := hr
    clear hr
    go_enter Try.func68, Try.ntmps68
    go_wp2_with (first
      | (go_at_call 65; refine (gi_yes _ _ (by omega) (by omega)).mono ?_; rintro e w' ⟨rfl, rfl⟩)
      | (go_at_call 106; first | (refine (so_pos _ _ (by omega) (by omega)).mono ?_; rintro e w' ⟨rfl, rfl⟩) | (refine (so_neg' _ _ (by omega) (by omega)).mono ?_; rintro e w' ⟨rfl, rfl⟩)))
    go_ret
    exact ⟨retI (by rw [Hr.out]; first | rw [if_pos (by omega)] | rw [if_neg (by omega)]), rfl⟩
  · have hp : a * b ≤ 72057594037927936 := (Int.le_ediv_iff_mul_le (by omega)).1 (by omega)
    have hn : 0 ≤ a * b := Int.mul_nonneg (by omega) (by omega)
    have hx1 : a * -b ≤ 72057594037927936 := by rw [Int.mul_neg]; omega
    have hx2 : -72057594037927936 ≤ a * -b := by rw [Int.mul_neg]; omega
    have hd : decide (72057594037927936 / b < a) = false := by simpa using ht
    clear ht
    have hr := near_small (-(a * b)) (by omega) (by omega)
    have Hr : Hid _ := hr
    clear hr
    go_enter Try.func68, Try.ntmps68
    go_wp2_with (first
      | (go_at_call 65; refine (gi_yes _ _ (by omega) (by omega)).mono ?_; rintro e w' ⟨rfl, rfl⟩)
      | (go_at_call 106; first | (refine (so_pos _ _ (by omega) (by omega)).mono ?_; rintro e w' ⟨rfl, rfl⟩) | (refine (so_neg' _ _ (by omega) (by omega)).mono ?_; rintro e w' ⟨rfl, rfl⟩))
      | (go_at_call 108; refine (dn_any _ 65536 _ (by omega) (by omega) (by omega) (by omega)).mono ?_; rintro e w' ⟨rfl, rfl⟩))
    go_ret
    exact ⟨retI (by rw [Hr.out]; first | rfl | rw [Int.mul_neg]), rfl⟩
end Go.Proofs.Ytapfafibhjpkdaa
