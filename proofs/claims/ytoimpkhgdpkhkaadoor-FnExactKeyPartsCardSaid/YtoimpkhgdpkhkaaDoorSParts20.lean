/-
  Items of keys, in the specification.
-/
import Derived.Test.YtoimpkhgdpkhkaaDoorKey20
namespace Go.Proofs.YtoimpkhgdpkhkaaDoor
open Go.ChangeShapes Go.WideShapes Go.ChangeAt Go.RowKit

set_option maxRecDepth 100000
set_option linter.unusedVariables false
set_option linter.unusedSimpArgs false

theorem and_i64 (a b : Nat) (ha : a < 4611686018427387904) (hb : b < 4611686018427387904) :
    bits .and .i64 (a : Int) (b : Int) = ((a &&& b : Nat) : Int) := by
  have hx : a &&& b ≤ a := Nat.and_le_left
  have h1 : (BitVec.ofInt 64 (a : Int)).toNat = a := by
    rw [BitVec.ofInt_natCast, BitVec.toNat_ofNat]; exact Nat.mod_eq_of_lt (by omega)
  have h2 : (BitVec.ofInt 64 (b : Int)).toNat = b := by
    rw [BitVec.ofInt_natCast, BitVec.toNat_ofNat]; exact Nat.mod_eq_of_lt (by omega)
  show IntKind.i64.wrap ((BitVec.ofInt 64 (a : Int) &&& BitVec.ofInt 64 (b : Int)).toNat : Int) = _
  rw [BitVec.toNat_and, h1, h2]
  exact IntWalk.i64_in _ (by omega)
theorem and_mod (n : Nat) (a m M : Int) (hM : ((2 ^ n : Nat) : Int) = M) (hm : M = m + 1) (ha : 0 ≤ a) (h : a < 4611686018427387904) (hm2 : m < 4611686018427387904) : bits .and .i64 a m = a % M := by
  obtain ⟨x, rfl⟩ := Int.eq_ofNat_of_zero_le ha
  have hp : 0 < 2 ^ n := Nat.two_pow_pos n
  have e : m = ((2 ^ n - 1 : Nat) : Int) := by omega
  rw [e, and_i64 _ _ (by omega) (by omega), Nat.and_two_pow_sub_one_eq_mod, ← hM]
  push_cast
  rfl

/-- The item of a key. -/
def partsM (k : Int) : ItemD := if k / 268435456 % 2 = 1 then (k / 536870912, k / 256 % 256, k % 256, 4095 - k / 65536 % 4096, true, 0, 0, 0, 0) else (k / 536870912, k / 1048576 % 256, k / 4096 % 256, k % 4096, false, 0, 0, 0, 0)
set_option maxHeartbeats 4000000 in
theorem sparts_no (k : Int) (w : World) (h : ¬ (0 ≤ k ∧ k ≤ 4294967295)) : Calls Tryd.prog 16 #[.int .i64 k] w fun e w' => e = .returned (.tuple #[.agg #[.int .i64 0, .int .i64 0, .int .i64 0, .int .i64 0, .bool false, .int .i64 0, .int .i64 0, .int .i64 0, .int .i64 0], .bool false]) ∧ Kept w w' := by
  have d : decide (0 ≤ k ∧ k ≤ 4294967295) = false := decide_eq_false h
  clear h
  go_enter Tryd.func16, Tryd.ntmps16
  repeat (first | go_values | go_skip | go_guarded | go_step | go_upon | (go_at_call 44; refine (sInG _ _ _ _).mono ?_; rintro e w3 ⟨rfl, hw3⟩; rw [hw3, d]; clear hw3 w3; dsimp only))
  refine bodyPost_ret (v := .tuple #[.agg #[.int .i64 0, .int .i64 0, .int .i64 0, .int .i64 0, .bool false, .int .i64 0, .int .i64 0, .int .i64 0, .int .i64 0], .bool false]) (by simp [results, Tryd.results16, go_sem]) rfl ?_
  exact ⟨rfl, by first | exact (But.refl _ _ _).alloc _ | (simp; exact (But.refl _ _ _).alloc _)⟩
set_option maxHeartbeats 4000000 in
theorem sparts_yes (k : Int) (w : World) (h : 0 ≤ k ∧ k ≤ 4294967295) : Calls Tryd.prog 16 #[.int .i64 k] w fun e w' => e = .returned (.tuple #[.agg (itemC (partsM k)).toArray, .bool true]) ∧ Kept w w' := by
  have d : decide (0 ≤ k ∧ k ≤ 4294967295) = true := decide_eq_true h
  obtain ⟨h1, h2⟩ := h
  have e0 : bits .and .i64 (k / 268435456) 1 = k / 268435456 % 2 := and_mod 1 _ 1 2 rfl rfl (by omega) (by omega) (by omega)
  have e1 : bits .and .i64 (k / 65536) 4095 = k / 65536 % 4096 := and_mod 12 _ 4095 4096 rfl rfl (by omega) (by omega) (by omega)
  have e2 : bits .and .i64 (k / 256) 255 = k / 256 % 256 := and_mod 8 _ 255 256 rfl rfl (by omega) (by omega) (by omega)
  have e3 : bits .and .i64 k 255 = k % 256 := and_mod 8 _ 255 256 rfl rfl (by omega) (by omega) (by omega)
  have e4 : bits .and .i64 (k / 1048576) 255 = k / 1048576 % 256 := and_mod 8 _ 255 256 rfl rfl (by omega) (by omega) (by omega)
  have e5 : bits .and .i64 (k / 4096) 255 = k / 4096 % 256 := and_mod 8 _ 255 256 rfl rfl (by omega) (by omega) (by omega)
  have e6 : bits .and .i64 k 4095 = k % 4096 := and_mod 12 _ 4095 4096 rfl rfl (by omega) (by omega) (by omega)
  by_cases hb : k / 268435456 % 2 = 1
  · have db : (k / 268435456 % 2 == 1) = true := by simpa using hb
    rw [show partsM k = (k / 536870912, k / 256 % 256, k % 256, 4095 - k / 65536 % 4096, true, 0, 0, 0, 0) from if_pos hb]
    clear hb
    go_enter Tryd.func16, Tryd.ntmps16
    repeat (first | go_values | go_skip | go_guarded | go_step | go_upon | (go_at_call 44; refine (sInG _ _ _ _).mono ?_; rintro e w3 ⟨rfl, hw3⟩; rw [hw3, d]; clear hw3 w3; dsimp only))
    refine bodyPost_ret (v := .tuple #[.agg #[.int .i64 (k / 536870912), .int .i64 (k / 256 % 256), .int .i64 (k % 256), .int .i64 (4095 - k / 65536 % 4096), .bool true, .int .i64 0, .int .i64 0, .int .i64 0, .int .i64 0], .bool true]) (by simp [results, Tryd.results16, go_sem]) rfl ?_
    exact ⟨rfl, ((But.refl _ _ _).alloc _).alloc _⟩
  · have db : (k / 268435456 % 2 == 1) = false := by simpa using hb
    rw [show partsM k = (k / 536870912, k / 1048576 % 256, k / 4096 % 256, k % 4096, false, 0, 0, 0, 0) from if_neg hb]
    clear hb
    go_enter Tryd.func16, Tryd.ntmps16
    repeat (first | go_values | go_skip | go_guarded | go_step | go_upon | (go_at_call 44; refine (sInG _ _ _ _).mono ?_; rintro e w3 ⟨rfl, hw3⟩; rw [hw3, d]; clear hw3 w3; dsimp only))
    refine bodyPost_ret (v := .tuple #[.agg #[.int .i64 (k / 536870912), .int .i64 (k / 1048576 % 256), .int .i64 (k / 4096 % 256), .int .i64 (k % 4096), .bool false, .int .i64 0, .int .i64 0, .int .i64 0, .int .i64 0], .bool true]) (by simp [results, Tryd.results16, go_sem]) rfl ?_
    exact ⟨rfl, ((But.refl _ _ _).alloc _).alloc _⟩

end Go.Proofs.YtoimpkhgdpkhkaaDoor
