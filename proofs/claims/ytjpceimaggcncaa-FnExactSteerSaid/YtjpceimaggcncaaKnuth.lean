/-
  The arithmetic of a long division by two digits: what is tried, and when it is right. Free of the program.
-/
import Derived.Test.YtjpceimaggcncaaMath
namespace Go.Proofs.Ytjpceimaggcncaa
open Go Plain

/-- One digit of the quotient is being sought: q is not too small, r is what q leaves of the high part. -/
structure Digit (V U n q r : Int) : Prop where
  q0 : 0 ≤ q
  qb : q < 8589934592
  r0 : 0 ≤ r
  rb : r < 4294967296
  eq : q * (V / 4294967296) + r = U
  up : U * 4294967296 + n < (q + 1) * V

theorem digit_start {V U n : Int} (hV : 9223372036854775808 ≤ V) (hV' : V < 18446744073709551616) (hU : 0 ≤ U) (hUV : U < V) (hn : n < 4294967296) :
    Digit V U n (U / (V / 4294967296)) (U % (V / 4294967296)) := by
  have hD : 2147483648 ≤ V / 4294967296 := by omega
  have hD' : V / 4294967296 < 4294967296 := by omega
  have hE : V = V / 4294967296 * 4294967296 + V % 4294967296 := by omega
  have hE0 : 0 ≤ V % 4294967296 := by omega
  obtain ⟨D, hDd⟩ : ∃ D, V / 4294967296 = D := ⟨_, rfl⟩
  rw [hDd] at hD hD' hE ⊢
  generalize V % 4294967296 = E at *
  have e := Int.mul_ediv_add_emod U D
  have l := Int.emod_lt_of_pos U (show 0 < D by omega)
  have l0 := Int.emod_nonneg U (show D ≠ 0 by omega)
  have q0 := Int.ediv_nonneg hU (show 0 ≤ D by omega)
  generalize U / D = q at *
  generalize U % D = r at *
  have e' : q * D + r = U := by rw [Int.mul_comm]; exact e
  refine ⟨q0, ?_, l0, by omega, by rw [hDd]; exact e', ?_⟩
  · rcases Int.lt_or_le q 8589934592 with h | h
    · exact h
    · have := Int.mul_le_mul h hD (by omega) q0
      omega
  · have h1 : (q + 1) * V = (q * D + D) * 4294967296 + (q + 1) * E := by
      conv => lhs; rw [hE]
      simp only [Int.mul_add, Int.add_mul, Int.one_mul, Int.mul_assoc]
    have h2 : 0 ≤ (q + 1) * E := Int.mul_nonneg (by omega) hE0
    rw [h1]
    have : U + 1 ≤ q * D + D := by omega
    omega

/-- Too great a digit: one less. -/
theorem digit_less {V U n q r : Int} (hV : 9223372036854775808 ≤ V) (hUV : U < V) (hn0 : 0 ≤ n) (hn : n < 4294967296) (h : Digit V U n q r)
    (ht : 4294967296 ≤ q ∨ 4294967296 * r + n < q * (V % 4294967296)) : 0 < q ∧ (q - 1) * (V / 4294967296) + (r + V / 4294967296) = U ∧ U * 4294967296 + n < q * V := by
  obtain ⟨q0, qb, r0, rb, e, up⟩ := h
  have hE : V = V / 4294967296 * 4294967296 + V % 4294967296 := by omega
  generalize V / 4294967296 = D at *
  generalize V % 4294967296 = E at *
  have hq : 0 < q := by
    rcases ht with ht | ht
    · omega
    · rcases Int.lt_or_le 0 q with h | h
      · exact h
      · have : q = 0 := by omega
        subst this
        simp at ht
        omega
  refine ⟨hq, ?_, ?_⟩
  · have : (q - 1) * D = q * D - D := by rw [Int.sub_mul]; omega
    omega
  · rcases ht with ht | ht
    · have := Int.mul_le_mul_of_nonneg_right ht (show 0 ≤ V by omega)
      omega
    · have h1 : q * V = q * D * 4294967296 + q * E := by rw [hE]; simp only [Int.mul_add, Int.mul_assoc]
      rw [h1]
      have : q * D = U - r := by omega
      rw [this]
      omega

/-- The digit is found. -/
theorem digit_is {V U n q r : Int} (hV : 9223372036854775808 ≤ V) (e : q * (V / 4294967296) + r = U) (up : U * 4294967296 + n < (q + 1) * V)
    (ht : q * (V % 4294967296) ≤ 4294967296 * r + n) : (U * 4294967296 + n) / V = q := by
  have hE : V = V / 4294967296 * 4294967296 + V % 4294967296 := by omega
  have h1 : q * V = q * (V / 4294967296) * 4294967296 + q * (V % 4294967296) := by
    conv => lhs; rw [hE]
    simp only [Int.mul_add, Int.mul_assoc]
  refine ediv_of _ _ _ (by omega) ?_ up
  rw [h1]
  have : q * (V / 4294967296) = U - r := by omega
  rw [this]
  omega

/-- Where what is left has two digits, the digit is found. -/
theorem digit_far {V U n q r : Int} (hV : 9223372036854775808 ≤ V) (hV' : V < 18446744073709551616) (hUV : U < V) (hn0 : 0 ≤ n) (q0 : 0 ≤ q) (e : q * (V / 4294967296) + r = U) (hr : 4294967296 ≤ r) :
    q * (V % 4294967296) ≤ 4294967296 * r + n := by
  have hE0 : 0 ≤ V % 4294967296 := by omega
  have hE1 : V % 4294967296 < 4294967296 := by omega
  have hE : V = V / 4294967296 * 4294967296 + V % 4294967296 := by omega
  generalize V / 4294967296 = D at *
  generalize V % 4294967296 = E at *
  have hD0 : 0 ≤ D := by omega
  have hq : q < 4294967296 := by
    rcases Int.lt_or_le q 4294967296 with h | h
    · exact h
    · have := Int.mul_le_mul_of_nonneg_right h hD0
      omega
  have := Int.mul_le_mul (show q ≤ 4294967295 by omega) (show E ≤ 4294967295 by omega) hE0 (by omega)
  omega

theorem wrapU (x : Int) : IntKind.u64.wrap x = x % 18446744073709551616 := by
  rw [IntKind.wrap_u64]

theorem orP (h a : Int) (s : Nat) (h0 : 0 ≤ h) (hb : h * 2 ^ s < 18446744073709551616) (a0 : 0 ≤ a) (ha : a < 2 ^ s) (hs : s < 64) : bits .or .u64 (h * 2 ^ s) a = h * 2 ^ s + a := by
  obtain ⟨p, rfl⟩ := Int.eq_ofNat_of_zero_le h0
  obtain ⟨q, rfl⟩ := Int.eq_ofNat_of_zero_le a0
  have c1 : ((p : Int) * 2 ^ s) = ((2 ^ s * p : Nat) : Int) := by rw [Int.natCast_mul, Int.natCast_pow, Int.mul_comm]; rfl
  have hq : q < 2 ^ s := by exact_mod_cast ha
  have h64 : 2 ^ s ≤ 2 ^ 63 := Nat.pow_le_pow_right (by omega) (by omega)
  rw [c1] at hb ⊢
  have e := bits_or_u64 (2 ^ s * p) q (Int.ofNat_lt.1 (show ((2 ^ s * p : Nat) : Int) < ((18446744073709551616 : Nat) : Int) from hb)) (by omega)
  rw [← Nat.two_pow_add_eq_or_of_lt hq p] at e
  rw [e]
  exact Int.natCast_add _ _

theorem norm64 (hi lo y : Int) (s : Nat) (h0 : 0 < hi) (h1 : hi < y) (hl0 : 0 ≤ lo) (hl : lo < 18446744073709551616) (hs : s < 64) (g1 : 9223372036854775808 ≤ y * 2 ^ s) (g2 : y * 2 ^ s < 18446744073709551616) :
    ∃ V U L : Int, y * 2 ^ s = V ∧ IntKind.u64.wrap (hi * 2 ^ s) = hi * 2 ^ s ∧ bits .or .u64 (hi * 2 ^ s) (lo / 2 ^ (64 - s)) = U ∧ IntKind.u64.wrap (lo * 2 ^ s) = L ∧ 9223372036854775808 ≤ V ∧ V < 18446744073709551616 ∧ 0 ≤ U ∧ U < V ∧ 0 ≤ L ∧ L < 18446744073709551616 ∧ (hi * 18446744073709551616 + lo) / y = (U * 18446744073709551616 + L) / V := by
  have hpc : (2 : Int) ^ s * 2 ^ (64 - s) = 18446744073709551616 := by rw [← Int.pow_add, show s + (64 - s) = 64 by omega]; rfl
  have hp : (0 : Int) < 2 ^ s := Int.pow_pos (by omega)
  have hc : (0 : Int) < 2 ^ (64 - s) := Int.pow_pos (by omega)
  have ea := Int.mul_ediv_add_emod lo (2 ^ (64 - s))
  have b0 := Int.emod_nonneg lo (show (2 : Int) ^ (64 - s) ≠ 0 by omega)
  have b1 := Int.emod_lt_of_pos lo hc
  have a0 := Int.ediv_nonneg hl0 (Int.le_of_lt hc)
  have a1 : lo / 2 ^ (64 - s) < 2 ^ s := (Int.ediv_lt_iff_lt_mul hc).2 (by rw [hpc]; exact hl)
  have hip : hi * 2 ^ s < y * 2 ^ s := Int.mul_lt_mul_of_pos_right h1 hp
  have hip0 : 0 ≤ hi * 2 ^ s := Int.mul_nonneg (by omega) (by omega)
  have eor := orP hi (lo / 2 ^ (64 - s)) s (by omega) (by omega) a0 a1 hs
  have ebp : lo * 2 ^ s = lo / 2 ^ (64 - s) * 18446744073709551616 + lo % 2 ^ (64 - s) * 2 ^ s := by
    conv => lhs; rw [← ea]
    rw [Int.add_mul, ← hpc]
    congr 1
    rw [Int.mul_comm (2 ^ (64 - s)), Int.mul_assoc, Int.mul_comm (2 ^ (64 - s))]
  have bp0 : 0 ≤ lo % 2 ^ (64 - s) * 2 ^ s := Int.mul_nonneg b0 (by omega)
  have bp1 : lo % 2 ^ (64 - s) * 2 ^ s < 18446744073709551616 := by
    rw [← hpc, Int.mul_comm (2 ^ s)]
    exact Int.mul_lt_mul_of_pos_right b1 hp
  refine ⟨_, _, lo % 2 ^ (64 - s) * 2 ^ s, rfl, ?_, eor, ?_, g1, g2, by omega, ?_, bp0, bp1, ?_⟩
  · rw [wrapU]; omega
  · rw [wrapU, ebp]; omega
  · have hh : hi + 1 ≤ y := by omega
    have := Int.mul_le_mul_of_nonneg_right hh (Int.le_of_lt hp)
    rw [Int.add_mul, Int.one_mul] at this
    omega
  · rw [← Int.mul_ediv_mul_of_pos_left (hi * 18446744073709551616 + lo) y hp]
    congr 1
    rw [Int.add_mul, Int.mul_assoc, Int.mul_comm 18446744073709551616, ← Int.mul_assoc, ebp, Int.add_mul]
    omega
end Go.Proofs.Ytjpceimaggcncaa
