/-
  An item of its parts.
-/
import Derived.Test.YtoimpkhgdpkhkaaDoorKey20
namespace Go.Proofs.YtoimpkhgdpkhkaaDoor
open Go.ChangeShapes Go.WideShapes Go.ChangeAt Go.RowKit

set_option maxRecDepth 100000
set_option linter.unusedVariables false
set_option linter.unusedSimpArgs false

theorem and_modz (n : Nat) (a m M : Int) (hM : ((2 ^ n : Nat) : Int) = M) (hm : M = m + 1) (hn : n ≤ 62) : bits .and .i64 a m = a % M := by
  have hp : 0 < 2 ^ n := Nat.two_pow_pos n
  have e : m = ((2 ^ n - 1 : Nat) : Int) := by omega
  have hle : (2 ^ n : Nat) ≤ 2 ^ 62 := Nat.pow_le_pow_right (by omega) hn
  have h2 : (BitVec.ofInt 64 (((2 ^ n - 1 : Nat) : Int))).toNat = 2 ^ n - 1 := by
    rw [BitVec.ofInt_natCast, BitVec.toNat_ofNat]; exact Nat.mod_eq_of_lt (by omega)
  have h1 : (BitVec.ofInt 64 a).toNat = (a % ((2 ^ 64 : Nat) : Int)).toNat := BitVec.toNat_ofInt ..
  have hd : ((2 ^ n : Nat) : Int) ∣ ((2 ^ 64 : Nat) : Int) := by
    rw [Int.natCast_dvd_natCast]
    exact Nat.pow_dvd_pow 2 (by omega)
  have hk : (((a % ((2 ^ 64 : Nat) : Int)).toNat % 2 ^ n : Nat) : Int) = a % M := by
    rw [Int.natCast_emod, Int.toNat_of_nonneg (Int.emod_nonneg _ (by decide)), Int.emod_emod_of_dvd _ hd, hM]
  rw [e]
  show IntKind.i64.wrap ((BitVec.ofInt 64 a &&& BitVec.ofInt 64 ((2 ^ n - 1 : Nat) : Int)).toNat : Int) = _
  rw [BitVec.toNat_and, h1, h2, Nat.and_two_pow_sub_one_eq_mod, hk]
  have b1 : 0 ≤ a % M := Int.emod_nonneg _ (by omega)
  have b2 : a % M < M := Int.emod_lt_of_pos _ (by omega)
  exact IntWalk.i64_in _ (by omega)
theorem nat_bit (x n : Nat) : x &&& 2 ^ n = if x / 2 ^ n % 2 = 1 then 2 ^ n else 0 := by
  apply Nat.eq_of_testBit_eq
  intro i
  rw [Nat.testBit_and, Nat.testBit_two_pow]
  by_cases h : n = i
  · subst h
    rw [decide_eq_true rfl, Bool.and_true, Nat.testBit_eq_decide_div_mod_eq]
    by_cases h2 : x / 2 ^ n % 2 = 1
    · rw [if_pos h2, Nat.testBit_two_pow_self, decide_eq_true h2]
    · rw [if_neg h2, Nat.zero_testBit, decide_eq_false h2]
  · rw [decide_eq_false h, Bool.and_false]
    split
    · rw [Nat.testBit_two_pow, decide_eq_false h]
    · rw [Nat.zero_testBit]
theorem and_bit (n : Nat) (a M : Int) (hM : ((2 ^ n : Nat) : Int) = M) (hn : n ≤ 61) : bits .and .i64 a M = if a / M % 2 = 1 then M else 0 := by
  have hp : 0 < 2 ^ n := Nat.two_pow_pos n
  have hle : (2 ^ n : Nat) ≤ 2 ^ 61 := Nat.pow_le_pow_right (by omega) hn
  have h2 : (BitVec.ofInt 64 (((2 ^ n : Nat) : Int))).toNat = 2 ^ n := by
    rw [BitVec.ofInt_natCast, BitVec.toNat_ofNat]; exact Nat.mod_eq_of_lt (by omega)
  have hMp : 0 < M := by rw [← hM]; exact Int.natCast_pos.2 hp
  have h1 : (BitVec.ofInt 64 a).toNat = (a % ((2 ^ 64 : Nat) : Int)).toNat := BitVec.toNat_ofInt ..
  obtain ⟨x, hx⟩ : ∃ x, (a % ((2 ^ 64 : Nat) : Int)).toNat = x := ⟨_, rfl⟩
  have hxa : (x : Int) = a % ((2 ^ 64 : Nat) : Int) := by rw [← hx]; exact Int.toNat_of_nonneg (Int.emod_nonneg _ (by decide))
  have hq : ((x / 2 ^ n % 2 : Nat) : Int) = a / M % 2 := by
    obtain ⟨c, hc⟩ : (2 ^ (n + 1) : Nat) ∣ 2 ^ 64 := Nat.pow_dvd_pow 2 (by omega)
    obtain ⟨q, hq⟩ : ∃ q, a / ((2 ^ 64 : Nat) : Int) = q := ⟨_, rfl⟩
    have hdm := Int.mul_ediv_add_emod a ((2 ^ 64 : Nat) : Int)
    rw [hq, ← hxa, hc, Nat.pow_succ] at hdm
    push_cast at hdm hM ⊢
    have e : a = (x : Int) + M * (2 * (c : Int) * q) := by
      rw [← hdm, ← hM, Int.add_comm]
      congr 1
      simp only [Int.mul_assoc]
    rw [hM, e, Int.add_mul_ediv_left _ _ (by omega), show (2 : Int) * c * q = 2 * (c * q) by rw [Int.mul_assoc], Int.add_mul_emod_self_left]
  show IntKind.i64.wrap ((BitVec.ofInt 64 a &&& BitVec.ofInt 64 M).toNat : Int) = _
  have h2' : (BitVec.ofInt 64 M).toNat = 2 ^ n := by rw [← hM]; exact h2
  rw [BitVec.toNat_and, h1, h2', hx, nat_bit]
  by_cases h : x / 2 ^ n % 2 = 1
  · rw [if_pos h, if_pos (show a / M % 2 = 1 by omega), hM]
    exact IntWalk.i64_in _ (by omega)
  · rw [if_neg h, if_neg (show ¬ a / M % 2 = 1 by omega)]
    rfl

set_option maxHeartbeats 2000000 in
theorem iof_true (p0 p2 p3 p4 : Int) (w : World) (h : 0 ≤ p4 ∧ p4 ≤ 4095) : Calls Tryd.prog 34 #[.agg #[.int .i64 p0, .int .i64 1, .int .i64 p2, .int .i64 p3, .int .i64 p4]] w fun e w' => e = .returned (.agg #[.int .i64 p0, .int .i64 p2, .int .i64 p3, .int .i64 (4095 - p4), .bool true, .int .i64 0, .int .i64 0, .int .i64 0, .int .i64 0]) ∧ Kept w w' := by
  obtain ⟨h1, h2⟩ := h
  go_enter Tryd.func34, Tryd.ntmps34
  repeat (first | go_values | go_skip | go_guarded | go_step | go_upon)
  refine bodyPost_ret (v := .agg #[.int .i64 p0, .int .i64 p2, .int .i64 p3, .int .i64 (4095 - p4), .bool true, .int .i64 0, .int .i64 0, .int .i64 0, .int .i64 0]) (by simp [results, Tryd.results34, go_sem]) rfl ?_
  exact ⟨rfl, (((But.refl _ _ _).alloc _).alloc _).alloc _⟩
set_option maxHeartbeats 2000000 in
theorem iof_false (p0 p1 p2 p3 p4 : Int) (w : World) (h : p1 ≠ 1) : Calls Tryd.prog 34 #[.agg #[.int .i64 p0, .int .i64 p1, .int .i64 p2, .int .i64 p3, .int .i64 p4]] w fun e w' => e = .returned (.agg #[.int .i64 p0, .int .i64 p2, .int .i64 p3, .int .i64 p4, .bool false, .int .i64 0, .int .i64 0, .int .i64 0, .int .i64 0]) ∧ Kept w w' := by
  have d1 : (p1 == 1) = false := by simpa using h
  go_enter Tryd.func34, Tryd.ntmps34
  repeat (first | go_values | go_skip | go_guarded | go_step | go_upon)
  refine bodyPost_ret (v := .agg #[.int .i64 p0, .int .i64 p2, .int .i64 p3, .int .i64 p4, .bool false, .int .i64 0, .int .i64 0, .int .i64 0, .int .i64 0]) (by simp [results, Tryd.results34, go_sem]) rfl ?_
  exact ⟨rfl, (((But.refl _ _ _).alloc _).alloc _).alloc _⟩

end Go.Proofs.YtoimpkhgdpkhkaaDoor
