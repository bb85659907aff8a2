/-
  What bits.Div64 answers: the quotient of a number of 128 bits.
-/
import Derived.Test.YtjpceimaggcncaaLen
import Derived.Test.YtjpceimaggcncaaKnuth
namespace Go.Proofs.Ytjpceimaggcncaa
open Go.ChangeShapes Go.WideShapes Go.ChangeAt Go.RowKit
open Plain
set_option maxRecDepth 100000
set_option linter.unusedVariables false

theorem first_rest {V U n : Int} (h : Digit V U n (U / (V / 4294967296)) (U % (V / 4294967296))) (v1 : V < 18446744073709551616) (u0 : 0 ≤ U) (u1 : U < V) :
    IntKind.u64.wrap (U - IntKind.u64.wrap (U / (V / 4294967296) * (V / 4294967296))) = U % (V / 4294967296) := by
  obtain ⟨_, _, r0, rb, e, _⟩ := h
  rw [wrapU, wrapU]
  generalize U / (V / 4294967296) * (V / 4294967296) = P at *
  omega

theorem second_rest {V U n Q : Int} (v0 : 9223372036854775808 ≤ V) (v1 : V < 18446744073709551616) (u0 : 0 ≤ U) (u1 : U < V) (hq : (U * 4294967296 + n) / V = Q) (m0 : 0 ≤ n) (m1 : n < 4294967296) :
    ∃ R : Int, IntKind.u64.wrap (IntKind.u64.wrap (IntKind.u64.wrap (U * 4294967296) + n) - IntKind.u64.wrap (Q * V)) = R ∧ 0 ≤ R ∧ R < V ∧ U * 4294967296 + n = Q * V + R := by
  have e := Int.mul_ediv_add_emod (U * 4294967296 + n) V
  have r0 := Int.emod_nonneg (U * 4294967296 + n) (show V ≠ 0 by omega)
  have r1 := Int.emod_lt_of_pos (U * 4294967296 + n) (show 0 < V by omega)
  rw [hq, Int.mul_comm] at e
  refine ⟨(U * 4294967296 + n) % V, ?_, r0, r1, e.symm⟩
  rw [wrapU, wrapU, wrapU, wrapU]
  generalize Q * V = P at *
  generalize (U * 4294967296 + n) % V = R at *
  omega
theorem fin64 {V U L R hi lo y Q q : Int} (h : (hi * 18446744073709551616 + lo) / y = (U * 18446744073709551616 + L) / V) (l0 : 0 ≤ L) (l1 : L < 18446744073709551616) (v0 : 9223372036854775808 ≤ V) (v1 : V < 18446744073709551616) (u0 : 0 ≤ U) (u1 : U < V)
    (e : U * 4294967296 + L / 4294967296 = Q * V + R) (R0 : 0 ≤ R) (R1 : R < V) (hq : (R * 4294967296 + L % 4294967296) / V = q) : (hi * 18446744073709551616 + lo) / y = Q * 4294967296 + q ∧ 0 ≤ Q ∧ Q < 4294967296 ∧ 0 ≤ q ∧ q < 4294967296 := by
  have hQ : (U * 4294967296 + L / 4294967296) / V = Q := ediv_of _ _ _ (by omega) (by omega) (by rw [Int.add_mul, Int.one_mul]; omega)
  have hQ1 : Q < 4294967296 := by rw [← hQ]; exact (Int.ediv_lt_iff_lt_mul (by omega)).2 (by omega)
  have hQ0 : 0 ≤ Q := by rw [← hQ]; exact Int.ediv_nonneg (by omega) (by omega)
  have hq1 : q < 4294967296 := by rw [← hq]; exact (Int.ediv_lt_iff_lt_mul (by omega)).2 (by omega)
  have hq0 : 0 ≤ q := by rw [← hq]; exact Int.ediv_nonneg (by omega) (by omega)
  have hl : (U * 18446744073709551616 + L) / V = Q * 4294967296 + q := by
    have e2 : U * 18446744073709551616 + L = (R * 4294967296 + L % 4294967296) + (Q * 4294967296) * V := by
      have : Q * 4294967296 * V = Q * V * 4294967296 := by rw [Int.mul_assoc, Int.mul_comm 4294967296, ← Int.mul_assoc]
      rw [this]
      generalize Q * V = P at *
      omega
    rw [e2, Int.add_mul_ediv_right _ _ (show V ≠ 0 by omega), hq, Int.add_comm]
  exact ⟨by rw [h, hl], hQ0, hQ1, hq0, hq1⟩

set_option maxHeartbeats 4000000 in
theorem div64_any (hi lo y : Int) (w : World) (h0 : 0 < hi) (h1 : hi < y) (hl0 : 0 ≤ lo) (hl : lo < 18446744073709551616) (hy : y < 18446744073709551616) :
    Calls Try.prog 99 #[.int .u64 hi, .int .u64 lo, .int .u64 y] w fun e w' => (∃ r : Int, e = .returned (.tuple #[.int .u64 ((hi * 18446744073709551616 + lo) / y), .int .u64 r])) ∧ w' = w := by
  have d1 : decide (y ≤ hi) = false := by simp; omega
  have d2 : (y == 0) = false := by simp; omega
  have d3 : (hi == 0) = false := by simp; omega
  have hy0 : 0 < y := by omega
  go_enter Try.func99, Try.ntmps99
  go_wp2_with (go_at_call 108; refine (lead_any _ _ hy0 hy).mono ?_; rintro e w' ⟨⟨s, rfl, hs, g1, g2⟩, rfl⟩; obtain ⟨V, U, L, n1, n2, n3, n4, v0, v1, u0, u1, l0, l1, HQ⟩ := norm64 hi lo y s h0 h1 hl0 hl hs g1 g2; have HQ : Hid _ := HQ; clear g1 g2; have a1 := and32 V (by omega) v1; have a2 := and32 L l0 l1)
  have hsD := digit_start v0 v1 u0 u1 (n := L / 4294967296) (by omega)
  have hr0 : IntKind.u64.wrap (U - IntKind.u64.wrap (U / (V / 4294967296) * (V / 4294967296))) = U % (V / 4294967296) := first_rest hsD v1 u0 u1
  rw [hr0]
  go_loopw [15, 16] (fun a b wr => ∃ q r : Int, a = .int .u64 q ∧ b = .int .u64 r ∧ Digit V U (L / 4294967296) q r ∧ wr = w') (fun a _ _ => (intOf a).toNat)
  case atStart => exact ⟨_, _, rfl, rfl, hsD, rfl⟩
  case round =>
    obtain ⟨q, r, rfl, rfl, hd, rfl⟩ := hrel
    clear hr0 hsD
    have HD1 : Hid _ := hd
    obtain ⟨q0, qb, r0, rb, -, -⟩ := hd
    have m0 : 0 ≤ L / 4294967296 := by omega
    have m1 : L / 4294967296 < 4294967296 := by omega
    have D0 : 2147483648 ≤ V / 4294967296 := by omega
    have D1 : V / 4294967296 < 4294967296 := by omega
    have hgo : (4294967296 ≤ q ∨ 4294967296 * r + L / 4294967296 < q * (V % 4294967296)) → 0 < q ∧ (q - 1) * (V / 4294967296) + (r + V / 4294967296) = U ∧ U * 4294967296 + L / 4294967296 < q * V := digit_less v0 u1 m0 m1 HD1.out
    have HG : Hid _ := hgo
    clear hgo
    by_cases c1 : 4294967296 ≤ q
    · have c1' : decide (4294967296 ≤ q) = true := by simpa using c1
      have HZ : Hid (0 < q ∧ (q - 1) * (V / 4294967296) + (r + V / 4294967296) = U ∧ U * 4294967296 + L / 4294967296 < q * V) := HG.out (Or.inl c1)
      have z1 : 0 < q := HZ.out.1
      clear HG
      by_cases c3 : 4294967296 ≤ r + V / 4294967296
      · have c3' : decide (4294967296 ≤ r + V / 4294967296) = true := by simpa using c3
        have hq1 : (U * 4294967296 + L / 4294967296) / V = q - 1 := digit_is v0 HZ.out.2.1 (by rw [Int.sub_add_cancel]; exact HZ.out.2.2) (digit_far v0 v1 u1 m0 (by omega) HZ.out.2.1 c3)
        obtain ⟨R, hR, R0, R1, hE⟩ := second_rest v0 v1 u0 u1 hq1 m0 m1
        have HE : Hid _ := hE
        clear hE hq1
        go_wp2
        have hsR := digit_start v0 v1 R0 R1 (n := L % 4294967296) (by omega)
        rw [first_rest hsR v1 R0 R1]
        have HS : Hid _ := hsR
        clear hsR
        clear HD1 c1 c1' hR
        go_loopw [16, 18] (fun b a wz => ∃ t z : Int, a = .int .u64 t ∧ b = .int .u64 z ∧ Digit V R (L % 4294967296) t z ∧ wz = wr) (fun _ a _ => (intOf a).toNat)
        case atStart => exact ⟨_, _, rfl, rfl, HS.out, rfl⟩
        case round =>
          obtain ⟨t, z, rfl, rfl, hd, rfl⟩ := hrel
          clear m0 m1 D0 D1
          have HD2 : Hid _ := hd
          obtain ⟨t0, tb, z0, zb, -, -⟩ := hd
          have m0 : 0 ≤ L % 4294967296 := by omega
          have m1 : L % 4294967296 < 4294967296 := by omega
          have D0 : 2147483648 ≤ V / 4294967296 := by omega
          have D1 : V / 4294967296 < 4294967296 := by omega
          have hgo : (4294967296 ≤ t ∨ 4294967296 * z + L % 4294967296 < t * (V % 4294967296)) → 0 < t ∧ (t - 1) * (V / 4294967296) + (z + V / 4294967296) = R ∧ R * 4294967296 + L % 4294967296 < t * V := digit_less v0 R1 m0 m1 HD2.out
          have HG : Hid _ := hgo
          clear hgo
          by_cases c1 : 4294967296 ≤ t
          · have c1' : decide (4294967296 ≤ t) = true := by simpa using c1
            have HZ : Hid (0 < t ∧ (t - 1) * (V / 4294967296) + (z + V / 4294967296) = R ∧ R * 4294967296 + L % 4294967296 < t * V) := HG.out (Or.inl c1)
            have z1 : 0 < t := HZ.out.1
            clear HG
            by_cases c3 : 4294967296 ≤ z + V / 4294967296
            · have c3' : decide (4294967296 ≤ z + V / 4294967296) = true := by simpa using c3
              have hq1 : (R * 4294967296 + L % 4294967296) / V = t - 1 := digit_is v0 HZ.out.2.1 (by rw [Int.sub_add_cancel]; exact HZ.out.2.2) (digit_far v0 v1 R1 m0 (by omega) HZ.out.2.1 c3)
              have HF : Hid _ := fin64 HQ.out l0 l1 v0 v1 u0 u1 HE.out R0 R1 hq1
              go_wp2
              go_ret2
              exact ⟨⟨_, ret_two (by have := HF.out; simp only [wrapU]; omega) rfl⟩, rfl⟩
            · have c3' : decide (4294967296 ≤ z + V / 4294967296) = false := by simpa using c3
              go_wp2
              exact ⟨⟨t - 1, z + V / 4294967296, rfl, rfl, ⟨by omega, by omega, by omega, by omega, HZ.out.2.1, by rw [Int.sub_add_cancel]; exact HZ.out.2.2⟩, (by first | exact trivial | rfl)⟩, by simp [intOf]; omega⟩
          · have c1' : decide (4294967296 ≤ t) = false := by simpa using c1
            have p0 : 0 ≤ t * (V % 4294967296) := Int.mul_nonneg t0 (by omega)
            have p1 : t * (V % 4294967296) < 18446744073709551616 := by
              have := Int.mul_le_mul (show t ≤ 4294967295 by omega) (show V % 4294967296 ≤ 4294967295 by omega) (by omega) (by omega)
              omega
            by_cases c2 : 4294967296 * z + L % 4294967296 < t * (V % 4294967296)
            · have c2' : decide (4294967296 * z + L % 4294967296 < t * (V % 4294967296)) = true := by simpa using c2
              have HZ : Hid (0 < t ∧ (t - 1) * (V / 4294967296) + (z + V / 4294967296) = R ∧ R * 4294967296 + L % 4294967296 < t * V) := HG.out (Or.inr c2)
              have z1 : 0 < t := HZ.out.1
              clear HG
              by_cases c3 : 4294967296 ≤ z + V / 4294967296
              · have c3' : decide (4294967296 ≤ z + V / 4294967296) = true := by simpa using c3
                have hq1 : (R * 4294967296 + L % 4294967296) / V = t - 1 := digit_is v0 HZ.out.2.1 (by rw [Int.sub_add_cancel]; exact HZ.out.2.2) (digit_far v0 v1 R1 m0 (by omega) HZ.out.2.1 c3)
                have HF : Hid _ := fin64 HQ.out l0 l1 v0 v1 u0 u1 HE.out R0 R1 hq1
                go_wp2
                go_ret2
                exact ⟨⟨_, ret_two (by have := HF.out; simp only [wrapU]; omega) rfl⟩, rfl⟩
              · have c3' : decide (4294967296 ≤ z + V / 4294967296) = false := by simpa using c3
                go_wp2
                exact ⟨⟨t - 1, z + V / 4294967296, rfl, rfl, ⟨by omega, by omega, by omega, by omega, HZ.out.2.1, by rw [Int.sub_add_cancel]; exact HZ.out.2.2⟩, (by first | exact trivial | rfl)⟩, by simp [intOf]; omega⟩
            · have c2' : decide (4294967296 * z + L % 4294967296 < t * (V % 4294967296)) = false := by simpa using c2
              have hq1 : (R * 4294967296 + L % 4294967296) / V = t := digit_is v0 HD2.out.eq HD2.out.up (by omega)
              have HF : Hid _ := fin64 HQ.out l0 l1 v0 v1 u0 u1 HE.out R0 R1 hq1
              go_wp2
              go_ret2
              exact ⟨⟨_, ret_two (by have := HF.out; simp only [wrapU]; omega) rfl⟩, rfl⟩
      · have c3' : decide (4294967296 ≤ r + V / 4294967296) = false := by simpa using c3
        go_wp2
        exact ⟨⟨q - 1, r + V / 4294967296, rfl, rfl, ⟨by omega, by omega, by omega, by omega, HZ.out.2.1, by rw [Int.sub_add_cancel]; exact HZ.out.2.2⟩, (by first | exact trivial | rfl)⟩, by simp [intOf]; omega⟩
    · have c1' : decide (4294967296 ≤ q) = false := by simpa using c1
      have p0 : 0 ≤ q * (V % 4294967296) := Int.mul_nonneg q0 (by omega)
      have p1 : q * (V % 4294967296) < 18446744073709551616 := by
        have := Int.mul_le_mul (show q ≤ 4294967295 by omega) (show V % 4294967296 ≤ 4294967295 by omega) (by omega) (by omega)
        omega
      by_cases c2 : 4294967296 * r + L / 4294967296 < q * (V % 4294967296)
      · have c2' : decide (4294967296 * r + L / 4294967296 < q * (V % 4294967296)) = true := by simpa using c2
        have HZ : Hid (0 < q ∧ (q - 1) * (V / 4294967296) + (r + V / 4294967296) = U ∧ U * 4294967296 + L / 4294967296 < q * V) := HG.out (Or.inr c2)
        have z1 : 0 < q := HZ.out.1
        clear HG
        by_cases c3 : 4294967296 ≤ r + V / 4294967296
        · have c3' : decide (4294967296 ≤ r + V / 4294967296) = true := by simpa using c3
          have hq1 : (U * 4294967296 + L / 4294967296) / V = q - 1 := digit_is v0 HZ.out.2.1 (by rw [Int.sub_add_cancel]; exact HZ.out.2.2) (digit_far v0 v1 u1 m0 (by omega) HZ.out.2.1 c3)
          obtain ⟨R, hR, R0, R1, hE⟩ := second_rest v0 v1 u0 u1 hq1 m0 m1
          have HE : Hid _ := hE
          clear hE hq1
          go_wp2
          have hsR := digit_start v0 v1 R0 R1 (n := L % 4294967296) (by omega)
          rw [first_rest hsR v1 R0 R1]
          have HS : Hid _ := hsR
          clear hsR
          clear HD1 c1 c1' hR
          go_loopw [16, 18] (fun b a wz => ∃ t z : Int, a = .int .u64 t ∧ b = .int .u64 z ∧ Digit V R (L % 4294967296) t z ∧ wz = wr) (fun _ a _ => (intOf a).toNat)
          case atStart => exact ⟨_, _, rfl, rfl, HS.out, rfl⟩
          case round =>
            obtain ⟨t, z, rfl, rfl, hd, rfl⟩ := hrel
            clear m0 m1 D0 D1
            have HD2 : Hid _ := hd
            obtain ⟨t0, tb, z0, zb, -, -⟩ := hd
            have m0 : 0 ≤ L % 4294967296 := by omega
            have m1 : L % 4294967296 < 4294967296 := by omega
            have D0 : 2147483648 ≤ V / 4294967296 := by omega
            have D1 : V / 4294967296 < 4294967296 := by omega
            have hgo : (4294967296 ≤ t ∨ 4294967296 * z + L % 4294967296 < t * (V % 4294967296)) → 0 < t ∧ (t - 1) * (V / 4294967296) + (z + V / 4294967296) = R ∧ R * 4294967296 + L % 4294967296 < t * V := digit_less v0 R1 m0 m1 HD2.out
            have HG : Hid _ := hgo
            clear hgo
            by_cases c1 : 4294967296 ≤ t
            · have c1' : decide (4294967296 ≤ t) = true := by simpa using c1
              have HZ : Hid (0 < t ∧ (t - 1) * (V / 4294967296) + (z + V / 4294967296) = R ∧ R * 4294967296 + L % 4294967296 < t * V) := HG.out (Or.inl c1)
              have z1 : 0 < t := HZ.out.1
              clear HG
              by_cases c3 : 4294967296 ≤ z + V / 4294967296
              · have c3' : decide (4294967296 ≤ z + V / 4294967296) = true := by simpa using c3
                have hq1 : (R * 4294967296 + L % 4294967296) / V = t - 1 := digit_is v0 HZ.out.2.1 (by rw [Int.sub_add_cancel]; exact HZ.out.2.2) (digit_far v0 v1 R1 m0 (by omega) HZ.out.2.1 c3)
                have HF : Hid _ := fin64 HQ.out l0 l1 v0 v1 u0 u1 HE.out R0 R1 hq1
                go_wp2
                go_ret2
                exact ⟨⟨_, ret_two (by have := HF.out; simp only [wrapU]; omega) rfl⟩, rfl⟩
              · have c3' : decide (4294967296 ≤ z + V / 4294967296) = false := by simpa using c3
                go_wp2
                exact ⟨⟨t - 1, z + V / 4294967296, rfl, rfl, ⟨by omega, by omega, by omega, by omega, HZ.out.2.1, by rw [Int.sub_add_cancel]; exact HZ.out.2.2⟩, (by first | exact trivial | rfl)⟩, by simp [intOf]; omega⟩
            · have c1' : decide (4294967296 ≤ t) = false := by simpa using c1
              have p0 : 0 ≤ t * (V % 4294967296) := Int.mul_nonneg t0 (by omega)
              have p1 : t * (V % 4294967296) < 18446744073709551616 := by
                have := Int.mul_le_mul (show t ≤ 4294967295 by omega) (show V % 4294967296 ≤ 4294967295 by omega) (by omega) (by omega)
                omega
              by_cases c2 : 4294967296 * z + L % 4294967296 < t * (V % 4294967296)
              · have c2' : decide (4294967296 * z + L % 4294967296 < t * (V % 4294967296)) = true := by simpa using c2
                have HZ : Hid (0 < t ∧ (t - 1) * (V / 4294967296) + (z + V / 4294967296) = R ∧ R * 4294967296 + L % 4294967296 < t * V) := HG.out (Or.inr c2)
                have z1 : 0 < t := HZ.out.1
                clear HG
                by_cases c3 : 4294967296 ≤ z + V / 4294967296
                · have c3' : decide (4294967296 ≤ z + V / 4294967296) = true := by simpa using c3
                  have hq1 : (R * 4294967296 + L % 4294967296) / V = t - 1 := digit_is v0 HZ.out.2.1 (by rw [Int.sub_add_cancel]; exact HZ.out.2.2) (digit_far v0 v1 R1 m0 (by omega) HZ.out.2.1 c3)
                  have HF : Hid _ := fin64 HQ.out l0 l1 v0 v1 u0 u1 HE.out R0 R1 hq1
                  go_wp2
                  go_ret2
                  exact ⟨⟨_, ret_two (by have := HF.out; simp only [wrapU]; omega) rfl⟩, rfl⟩
                · have c3' : decide (4294967296 ≤ z + V / 4294967296) = false := by simpa using c3
                  go_wp2
                  exact ⟨⟨t - 1, z + V / 4294967296, rfl, rfl, ⟨by omega, by omega, by omega, by omega, HZ.out.2.1, by rw [Int.sub_add_cancel]; exact HZ.out.2.2⟩, (by first | exact trivial | rfl)⟩, by simp [intOf]; omega⟩
              · have c2' : decide (4294967296 * z + L % 4294967296 < t * (V % 4294967296)) = false := by simpa using c2
                have hq1 : (R * 4294967296 + L % 4294967296) / V = t := digit_is v0 HD2.out.eq HD2.out.up (by omega)
                have HF : Hid _ := fin64 HQ.out l0 l1 v0 v1 u0 u1 HE.out R0 R1 hq1
                go_wp2
                go_ret2
                exact ⟨⟨_, ret_two (by have := HF.out; simp only [wrapU]; omega) rfl⟩, rfl⟩
        · have c3' : decide (4294967296 ≤ r + V / 4294967296) = false := by simpa using c3
          go_wp2
          exact ⟨⟨q - 1, r + V / 4294967296, rfl, rfl, ⟨by omega, by omega, by omega, by omega, HZ.out.2.1, by rw [Int.sub_add_cancel]; exact HZ.out.2.2⟩, (by first | exact trivial | rfl)⟩, by simp [intOf]; omega⟩
      · have c2' : decide (4294967296 * r + L / 4294967296 < q * (V % 4294967296)) = false := by simpa using c2
        have hq1 : (U * 4294967296 + L / 4294967296) / V = q := digit_is v0 HD1.out.eq HD1.out.up (by omega)
        obtain ⟨R, hR, R0, R1, hE⟩ := second_rest v0 v1 u0 u1 hq1 m0 m1
        have HE : Hid _ := hE
        clear hE hq1
        go_wp2
        have hsR := digit_start v0 v1 R0 R1 (n := L % 4294967296) (by omega)
        rw [first_rest hsR v1 R0 R1]
        have HS : Hid _ := hsR
        clear hsR
        clear HD1 c1 c1' hR
        go_loopw [16, 18] (fun b a wz => ∃ t z : Int, a = .int .u64 t ∧ b = .int .u64 z ∧ Digit V R (L % 4294967296) t z ∧ wz = wr) (fun _ a _ => (intOf a).toNat)
        case atStart => exact ⟨_, _, rfl, rfl, HS.out, rfl⟩
        case round =>
          obtain ⟨t, z, rfl, rfl, hd, rfl⟩ := hrel
          clear m0 m1 D0 D1
          have HD2 : Hid _ := hd
          obtain ⟨t0, tb, z0, zb, -, -⟩ := hd
          have m0 : 0 ≤ L % 4294967296 := by omega
          have m1 : L % 4294967296 < 4294967296 := by omega
          have D0 : 2147483648 ≤ V / 4294967296 := by omega
          have D1 : V / 4294967296 < 4294967296 := by omega
          have hgo : (4294967296 ≤ t ∨ 4294967296 * z + L % 4294967296 < t * (V % 4294967296)) → 0 < t ∧ (t - 1) * (V / 4294967296) + (z + V / 4294967296) = R ∧ R * 4294967296 + L % 4294967296 < t * V := digit_less v0 R1 m0 m1 HD2.out
          have HG : Hid _ := hgo
          clear hgo
          by_cases c1 : 4294967296 ≤ t
          · have c1' : decide (4294967296 ≤ t) = true := by simpa using c1
            have HZ : Hid (0 < t ∧ (t - 1) * (V / 4294967296) + (z + V / 4294967296) = R ∧ R * 4294967296 + L % 4294967296 < t * V) := HG.out (Or.inl c1)
            have z1 : 0 < t := HZ.out.1
            clear HG
            by_cases c3 : 4294967296 ≤ z + V / 4294967296
            · have c3' : decide (4294967296 ≤ z + V / 4294967296) = true := by simpa using c3
              have hq1 : (R * 4294967296 + L % 4294967296) / V = t - 1 := digit_is v0 HZ.out.2.1 (by rw [Int.sub_add_cancel]; exact HZ.out.2.2) (digit_far v0 v1 R1 m0 (by omega) HZ.out.2.1 c3)
              have HF : Hid _ := fin64 HQ.out l0 l1 v0 v1 u0 u1 HE.out R0 R1 hq1
              go_wp2
              go_ret2
              exact ⟨⟨_, ret_two (by have := HF.out; simp only [wrapU]; omega) rfl⟩, rfl⟩
            · have c3' : decide (4294967296 ≤ z + V / 4294967296) = false := by simpa using c3
              go_wp2
              exact ⟨⟨t - 1, z + V / 4294967296, rfl, rfl, ⟨by omega, by omega, by omega, by omega, HZ.out.2.1, by rw [Int.sub_add_cancel]; exact HZ.out.2.2⟩, (by first | exact trivial | rfl)⟩, by simp [intOf]; omega⟩
          · have c1' : decide (4294967296 ≤ t) = false := by simpa using c1
            have p0 : 0 ≤ t * (V % 4294967296) := Int.mul_nonneg t0 (by omega)
            have p1 : t * (V % 4294967296) < 18446744073709551616 := by
              have := Int.mul_le_mul (show t ≤ 4294967295 by omega) (show V % 4294967296 ≤ 4294967295 by omega) (by omega) (by omega)
              omega
            by_cases c2 : 4294967296 * z + L % 4294967296 < t * (V % 4294967296)
            · have c2' : decide (4294967296 * z + L % 4294967296 < t * (V % 4294967296)) = true := by simpa using c2
              have HZ : Hid (0 < t ∧ (t - 1) * (V / 4294967296) + (z + V / 4294967296) = R ∧ R * 4294967296 + L % 4294967296 < t * V) := HG.out (Or.inr c2)
              have z1 : 0 < t := HZ.out.1
              clear HG
              by_cases c3 : 4294967296 ≤ z + V / 4294967296
              · have c3' : decide (4294967296 ≤ z + V / 4294967296) = true := by simpa using c3
                have hq1 : (R * 4294967296 + L % 4294967296) / V = t - 1 := digit_is v0 HZ.out.2.1 (by rw [Int.sub_add_cancel]; exact HZ.out.2.2) (digit_far v0 v1 R1 m0 (by omega) HZ.out.2.1 c3)
                have HF : Hid _ := fin64 HQ.out l0 l1 v0 v1 u0 u1 HE.out R0 R1 hq1
                go_wp2
                go_ret2
                exact ⟨⟨_, ret_two (by have := HF.out; simp only [wrapU]; omega) rfl⟩, rfl⟩
              · have c3' : decide (4294967296 ≤ z + V / 4294967296) = false := by simpa using c3
                go_wp2
                exact ⟨⟨t - 1, z + V / 4294967296, rfl, rfl, ⟨by omega, by omega, by omega, by omega, HZ.out.2.1, by rw [Int.sub_add_cancel]; exact HZ.out.2.2⟩, (by first | exact trivial | rfl)⟩, by simp [intOf]; omega⟩
            · have c2' : decide (4294967296 * z + L % 4294967296 < t * (V % 4294967296)) = false := by simpa using c2
              have hq1 : (R * 4294967296 + L % 4294967296) / V = t := digit_is v0 HD2.out.eq HD2.out.up (by omega)
              have HF : Hid _ := fin64 HQ.out l0 l1 v0 v1 u0 u1 HE.out R0 R1 hq1
              go_wp2
              go_ret2
              exact ⟨⟨_, ret_two (by have := HF.out; simp only [wrapU]; omega) rfl⟩, rfl⟩
end Go.Proofs.Ytjpceimaggcncaa
