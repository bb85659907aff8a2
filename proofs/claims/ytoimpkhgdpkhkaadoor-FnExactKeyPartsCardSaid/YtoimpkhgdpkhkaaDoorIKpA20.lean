/-
  Items of keys, in the program, at every key.
-/
import Derived.Test.YtoimpkhgdpkhkaaDoorIKp20
namespace Go.Proofs.YtoimpkhgdpkhkaaDoor
open Go.ChangeShapes Go.WideShapes Go.ChangeAt Go.RowKit

set_option maxRecDepth 100000
set_option linter.unusedVariables false
set_option linter.unusedSimpArgs false

set_option maxHeartbeats 2000000 in
theorem ikp_false (k : Int) (w : World) (hT : Tab w) (hk : -9223372036854775808 ≤ k ∧ k ≤ 9223372036854775807) (hfl : ¬ k / 268435456 % 2 = 1) :
    Calls Tryd.prog 10 #[.int .i64 k] w fun e w' => e = .returned (if 0 ≤ k ∧ k ≤ 4294967295 then .tuple #[.agg (itemC (partsM k)).toArray, .bool true] else .tuple #[.agg #[.int .i64 0, .int .i64 0, .int .i64 0, .int .i64 0, .bool false, .int .i64 0, .int .i64 0, .int .i64 0, .int .i64 0], .bool false]) ∧ Kept w w' := by
  have hs : sF k [(4, 4), (3, 3), (2, 2), (1, 1), (0, 0)] = (k / 4096 / 256 / 256 / 2 / 8, [k / 4096 / 256 / 256 / 2 % 8, k / 4096 / 256 / 256 % 2, k / 4096 / 256 % 256, k / 4096 % 256, k % 4096]) := rfl
  refine ikp_gen k 0 false 0 1 2 3 4 (k / 4096 / 256 / 256 / 2 % 8) (k / 4096 / 256 % 256) (k / 4096 % 256) (k % 4096) false 0 0 0 0 _ w hT hk (by rw [and_bit 28 k 268435456 rfl (by omega)]; simp [hfl]) (by decide) (fun W => by have := iorder false W; simp only [Bool.false_eq_true, if_false] at this; exact this) (fun h0 W => ?_) (fun h0 => ?_) (fun h0 => ?_)
  · rw [hs]
    show Calls Tryd.prog 34 #[.agg #[.int .i64 (k / 4096 / 256 / 256 / 2 % 8), .int .i64 (k / 4096 / 256 / 256 % 2), .int .i64 (k / 4096 / 256 % 256), .int .i64 (k / 4096 % 256), .int .i64 (k % 4096)]] W _
    skip
    exact iof_false _ _ _ _ _ W (by omega)
  · rw [hs] at h0
    have h1 : k / 4096 / 256 / 256 / 2 / 8 = 0 := h0
    rw [if_pos (by omega)]
    have q0 : (k / 4096 / 256 / 256 / 2 % 8) = k / 536870912 := by omega
    have q1 : (k / 4096 / 256 % 256) = k / 1048576 % 256 := by omega
    have q2 : (k / 4096 % 256) = k / 4096 % 256 := by omega
    have q3 : (k % 4096) = k % 4096 := by omega
    rw [show partsM k = (k / 536870912, k / 1048576 % 256, k / 4096 % 256, k % 4096, false, 0, 0, 0, 0) from if_neg hfl]
    simp only [itemC, q0, q1, q2, q3]
  · rw [hs] at h0
    have h1 : ¬ k / 4096 / 256 / 256 / 2 / 8 = 0 := h0
    rw [if_neg (by omega)]

set_option maxHeartbeats 2000000 in
theorem ikp_true (k : Int) (w : World) (hT : Tab w) (hk : -9223372036854775808 ≤ k ∧ k ≤ 9223372036854775807) (hfl : k / 268435456 % 2 = 1) :
    Calls Tryd.prog 10 #[.int .i64 k] w fun e w' => e = .returned (if 0 ≤ k ∧ k ≤ 4294967295 then .tuple #[.agg (itemC (partsM k)).toArray, .bool true] else .tuple #[.agg #[.int .i64 0, .int .i64 0, .int .i64 0, .int .i64 0, .bool false, .int .i64 0, .int .i64 0, .int .i64 0, .int .i64 0], .bool false]) ∧ Kept w w' := by
  have hs : sF k [(4, 3), (3, 2), (2, 4), (1, 1), (0, 0)] = (k / 256 / 256 / 4096 / 2 / 8, [k / 256 / 256 / 4096 / 2 % 8, k / 256 / 256 / 4096 % 2, k / 256 % 256, k % 256, k / 256 / 256 % 4096]) := rfl
  refine ikp_gen k 268435456 true 0 1 4 2 3 (k / 256 / 256 / 4096 / 2 % 8) (k / 256 % 256) (k % 256) (4095 - k / 256 / 256 % 4096) true 0 0 0 0 _ w hT hk (by rw [and_bit 28 k 268435456 rfl (by omega)]; simp [hfl]) (by decide) (fun W => by have := iorder true W; simp only [if_true] at this; exact this) (fun h0 W => ?_) (fun h0 => ?_) (fun h0 => ?_)
  · rw [hs]
    show Calls Tryd.prog 34 #[.agg #[.int .i64 (k / 256 / 256 / 4096 / 2 % 8), .int .i64 (k / 256 / 256 / 4096 % 2), .int .i64 (k / 256 % 256), .int .i64 (k % 256), .int .i64 (k / 256 / 256 % 4096)]] W _
    rw [show k / 256 / 256 / 4096 % 2 = 1 by omega]
    exact iof_true _ _ _ _ W (by omega)
  · rw [hs] at h0
    have h1 : k / 256 / 256 / 4096 / 2 / 8 = 0 := h0
    rw [if_pos (by omega)]
    have q0 : (k / 256 / 256 / 4096 / 2 % 8) = k / 536870912 := by omega
    have q1 : (k / 256 % 256) = k / 256 % 256 := by omega
    have q2 : (k % 256) = k % 256 := by omega
    have q3 : (4095 - k / 256 / 256 % 4096) = 4095 - k / 65536 % 4096 := by omega
    rw [show partsM k = (k / 536870912, k / 256 % 256, k % 256, 4095 - k / 65536 % 4096, true, 0, 0, 0, 0) from if_pos hfl]
    simp only [itemC, q0, q1, q2, q3]
  · rw [hs] at h0
    have h1 : ¬ k / 256 / 256 / 4096 / 2 / 8 = 0 := h0
    rw [if_neg (by omega)]

theorem ikp (k : Int) (w : World) (hT : Tab w) (hk : -9223372036854775808 ≤ k ∧ k ≤ 9223372036854775807) :
    Calls Tryd.prog 10 #[.int .i64 k] w fun e w' => e = .returned (if 0 ≤ k ∧ k ≤ 4294967295 then .tuple #[.agg (itemC (partsM k)).toArray, .bool true] else .tuple #[.agg #[.int .i64 0, .int .i64 0, .int .i64 0, .int .i64 0, .bool false, .int .i64 0, .int .i64 0, .int .i64 0, .int .i64 0], .bool false]) ∧ Kept w w' := by
  by_cases h : k / 268435456 % 2 = 1
  · exact ikp_true k w hT hk h
  · exact ikp_false k w hT hk h

end Go.Proofs.YtoimpkhgdpkhkaaDoor
