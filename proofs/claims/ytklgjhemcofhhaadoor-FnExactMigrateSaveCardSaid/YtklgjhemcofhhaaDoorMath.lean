/-
  Plain arithmetic that the walks of this seat lean on: products of two numbers of 64 bits by halves, masks, quotients and roots that are found by halving.
-/
import Derived.Laws.Bits64
namespace Go.Proofs.YtklgjhemcofhhaaDoor.Plain
open Go

theorem bits_and_u64 (a b : Nat) (ha : a < 18446744073709551616) (hb : b < 18446744073709551616) :
    bits .and .u64 (a : Int) (b : Int) = ((a &&& b : Nat) : Int) := by
  have hx : a &&& b < 2 ^ 64 := Nat.lt_of_le_of_lt Nat.and_le_left (by omega)
  have h1 : (BitVec.ofInt 64 (a : Int)).toNat = a := by
    rw [BitVec.ofInt_natCast, BitVec.toNat_ofNat]; exact Nat.mod_eq_of_lt (by omega)
  have h2 : (BitVec.ofInt 64 (b : Int)).toNat = b := by
    rw [BitVec.ofInt_natCast, BitVec.toNat_ofNat]; exact Nat.mod_eq_of_lt (by omega)
  show IntKind.u64.wrap ((BitVec.ofInt 64 (a : Int) &&& BitVec.ofInt 64 (b : Int)).toNat : Int) = _
  rw [BitVec.toNat_and, h1, h2, IntKind.wrap_u64]
  omega

theorem bits_or_u64 (a b : Nat) (ha : a < 18446744073709551616) (hb : b < 18446744073709551616) :
    bits .or .u64 (a : Int) (b : Int) = ((a ||| b : Nat) : Int) := by
  have hx : a ||| b < 2 ^ 64 := Nat.or_lt_two_pow (by omega) (by omega)
  have h1 : (BitVec.ofInt 64 (a : Int)).toNat = a := by
    rw [BitVec.ofInt_natCast, BitVec.toNat_ofNat]; exact Nat.mod_eq_of_lt (by omega)
  have h2 : (BitVec.ofInt 64 (b : Int)).toNat = b := by
    rw [BitVec.ofInt_natCast, BitVec.toNat_ofNat]; exact Nat.mod_eq_of_lt (by omega)
  show IntKind.u64.wrap ((BitVec.ofInt 64 (a : Int) ||| BitVec.ofInt 64 (b : Int)).toNat : Int) = _
  rw [BitVec.toNat_or, h1, h2, IntKind.wrap_u64]
  omega

theorem and32 (a : Int) (h0 : 0 ≤ a) (h : a < 18446744073709551616) : bits .and .u64 a 4294967295 = a % 4294967296 := by
  obtain ⟨n, rfl⟩ := Int.eq_ofNat_of_zero_le h0
  have e := bits_and_u64 n 4294967295 (by omega) (by decide)
  have e2 : n &&& 4294967295 = n % 4294967296 := Nat.and_two_pow_sub_one_eq_mod n 32
  rw [e2] at e
  rw [show ((4294967295 : Nat) : Int) = 4294967295 from rfl] at e
  rw [e]
  omega

theorem or32 (m l : Int) (hm0 : 0 ≤ m) (hm : m < 4294967296) (hl0 : 0 ≤ l) (hl : l < 4294967296) :
    bits .or .u64 (m * 4294967296) l = m * 4294967296 + l := by
  obtain ⟨p, rfl⟩ := Int.eq_ofNat_of_zero_le hm0
  obtain ⟨q, rfl⟩ := Int.eq_ofNat_of_zero_le hl0
  have e := bits_or_u64 (2 ^ 32 * p) q (by omega) (by omega)
  have e2 := Nat.two_pow_add_eq_or_of_lt (i := 32) (b := q) (by omega) p
  rw [← e2] at e
  rw [show ((p : Int) * 4294967296) = ((2 ^ 32 * p : Nat) : Int) from by omega, e]
  omega

theorem mul_bd (x u m n : Int) (h0 : 0 ≤ x) (h : x ≤ m) (k0 : 0 ≤ u) (k : u ≤ n) : 0 ≤ x * u ∧ x * u ≤ m * n :=
  ⟨Int.mul_nonneg h0 k0, Int.mul_le_mul h k k0 (by omega)⟩

theorem halves (a b : Int) (ha : 0 ≤ a) (ha' : a < 18446744073709551616) (hb : 0 ≤ b) (hb' : b < 18446744073709551616) :
    a * b = (a / 4294967296 * (b / 4294967296)) * 18446744073709551616 + (a / 4294967296 * (b % 4294967296)) * 4294967296 + (a % 4294967296 * (b / 4294967296)) * 4294967296 + a % 4294967296 * (b % 4294967296)
    ∧ (0 ≤ a / 4294967296 * (b / 4294967296) ∧ a / 4294967296 * (b / 4294967296) ≤ 18446744065119617025)
    ∧ (0 ≤ a / 4294967296 * (b % 4294967296) ∧ a / 4294967296 * (b % 4294967296) ≤ 18446744065119617025)
    ∧ (0 ≤ a % 4294967296 * (b / 4294967296) ∧ a % 4294967296 * (b / 4294967296) ≤ 18446744065119617025)
    ∧ (0 ≤ a % 4294967296 * (b % 4294967296) ∧ a % 4294967296 * (b % 4294967296) ≤ 18446744065119617025) := by
  have ea : a = a / 4294967296 * 4294967296 + a % 4294967296 := by omega
  have eb : b = b / 4294967296 * 4294967296 + b % 4294967296 := by omega
  have a1 : 0 ≤ a / 4294967296 ∧ a / 4294967296 ≤ 4294967295 := by omega
  have a2 : 0 ≤ a % 4294967296 ∧ a % 4294967296 ≤ 4294967295 := by omega
  have b1 : 0 ≤ b / 4294967296 ∧ b / 4294967296 ≤ 4294967295 := by omega
  have b2 : 0 ≤ b % 4294967296 ∧ b % 4294967296 ≤ 4294967295 := by omega
  generalize a / 4294967296 = A at *
  generalize a % 4294967296 = X at *
  generalize b / 4294967296 = B at *
  generalize b % 4294967296 = U at *
  refine ⟨?_, mul_bd _ _ _ _ a1.1 a1.2 b1.1 b1.2, mul_bd _ _ _ _ a1.1 a1.2 b2.1 b2.2, mul_bd _ _ _ _ a2.1 a2.2 b1.1 b1.2, mul_bd _ _ _ _ a2.1 a2.2 b2.1 b2.2⟩
  subst ea; subst eb
  rw [Int.add_mul, Int.mul_add, Int.mul_add]
  have e1 : A * 4294967296 * (B * 4294967296) = A * B * 18446744073709551616 := by
    rw [Int.mul_assoc, Int.mul_left_comm 4294967296 B, Int.mul_assoc A B]; rfl
  have e2 : A * 4294967296 * U = A * U * 4294967296 := by rw [Int.mul_assoc, Int.mul_comm 4294967296 U, Int.mul_assoc]
  have e3 : X * (B * 4294967296) = X * B * 4294967296 := by rw [Int.mul_assoc]
  rw [e1, e2, e3]
  omega

theorem ediv_of (x q d : Int) (hd : 0 < d) (h1 : q * d ≤ x) (h2 : x < (q + 1) * d) : x / d = q := by
  have a1 : q ≤ x / d := (Int.le_ediv_iff_mul_le hd).2 h1
  have a2 : x / d < q + 1 := (Int.ediv_lt_iff_lt_mul hd).2 h2
  omega

def cutM (n : Int) : Int := if n > 1099511627776 then 1099511627776 else if n < -1099511627776 then -1099511627776 else n
def nearM (p b : Int) : Int := cutM ((2 * p + b) / (2 * b))

theorem near_of_pos (p b q : Int) (hb : 0 < b) (h1 : q * (2 * b) ≤ p + p + b) (h2 : q = 4398046511104 ∨ p + p + b < (q + 1) * (2 * b)) : cutM q = nearM p b := by
  unfold nearM
  rw [show 2 * p + b = p + p + b from by omega]
  rcases h2 with rfl | h2
  · have h : 4398046511104 ≤ (p + p + b) / (2 * b) := (Int.le_ediv_iff_mul_le (by omega)).2 h1
    unfold cutM
    rw [if_pos (by omega), if_pos (by omega)]
  · rw [ediv_of _ q _ (by omega) h1 h2]

theorem near_of_neg (p b q : Int) (hb : 0 < b) (h1 : q * (2 * b) ≤ p + p + b - 1) (h2 : q = 4398046511104 ∨ p + p + b - 1 < (q + 1) * (2 * b)) : cutM (-q) = nearM (-p) b := by
  unfold nearM
  rcases h2 with rfl | h2
  · have h : (2 * -p + b) / (2 * b) < -4398046511104 + 1 := (Int.ediv_lt_iff_lt_mul (by omega)).2 (by omega)
    unfold cutM
    rw [if_neg (by omega), if_pos (by omega), if_neg (by omega), if_pos (by omega)]
  · rw [ediv_of (2 * -p + b) (-q) (2 * b) (by omega) (by rw [Int.neg_mul]; rw [Int.add_mul] at h2; omega) (by rw [Int.add_mul, Int.neg_mul]; omega)]

end Go.Proofs.YtklgjhemcofhhaaDoor.Plain
