/-
  A sum of energies as a fraction in least terms: free of the program.
-/
import Derived.Test.YthpjjpgahmkpdaaBase
namespace Go.Proofs.Ythpjjpgahmkpdaa
open Go.ChangeShapes Go.WideShapes Go.ChangeAt Go.RowKit

set_option maxRecDepth 100000
set_option linter.unusedVariables false
set_option linter.unusedSimpArgs false

/-- A sum of energies so far, as a fraction without a divisor in common: parts of 55440. -/
structure Inv (parts N D : Nat) : Prop where
  cop : Nat.Coprime N D
  pos : 0 < D
  eq : N * 55440 = parts * D
theorem div_of {a g x : Nat} (h : a = g * x) (hg : 0 < g) : a / g = x := by subst h; exact Nat.mul_div_cancel_left _ hg
theorem Inv.zero : Inv 0 0 1 := ⟨by decide, by decide, by decide⟩
theorem Inv.dvd {parts N D : Nat} (h : Inv parts N D) : D ∣ 55440 := (Nat.Coprime.symm h.cop).dvd_of_dvd_mul_left ⟨parts, by rw [h.eq, Nat.mul_comm]⟩
theorem Inv.fin {parts N D : Nat} (h : Inv parts N D) : parts / Nat.gcd parts 55440 = N ∧ 55440 / Nat.gcd parts 55440 = D := by
  obtain ⟨k, hk⟩ := h.dvd
  have hk0 : 0 < k := by
    rcases Nat.eq_zero_or_pos k with e | e
    · rw [e] at hk; simp at hk
    · exact e
  have hp : parts = N * k := by
    have e := h.eq
    rw [hk, ← Nat.mul_assoc, Nat.mul_comm N D, Nat.mul_assoc, Nat.mul_comm parts] at e
    exact (Nat.eq_of_mul_eq_mul_left h.pos e).symm
  have hg : Nat.gcd parts 55440 = k := by
    rw [hp, hk, Nat.gcd_mul_right, show Nat.gcd N D = 1 from h.cop, Nat.one_mul]
  rw [hg]
  refine ⟨?_, ?_⟩
  · rw [hp]; exact Nat.mul_div_cancel _ hk0
  · rw [hk]; exact Nat.mul_div_cancel _ hk0
theorem Inv.le {parts N D : Nat} (h : Inv parts N D) : N ≤ parts ∧ D ≤ 55440 := by
  have hd := Nat.le_of_dvd (by decide) h.dvd
  refine ⟨?_, hd⟩
  have := Nat.mul_le_mul_left parts hd
  have e := h.eq
  omega
/-- One more energy P P / (2 M), as the specification adds it. -/
theorem Inv.step {parts N D e d : Nat} (h : Inv parts N D) (hd : d ∣ 55440) :
    ∃ g1 e1 d1 g2 k1 k2 N1 D1 g3 N2 D2 : Nat, Nat.gcd e d = g1 ∧ 0 < g1 ∧ e / g1 = e1 ∧ d / g1 = d1 ∧ Nat.gcd D d1 = g2 ∧ 0 < g2 ∧ d1 / g2 = k1 ∧ D / g2 = k2 ∧ N * k1 + e1 * k2 = N1 ∧ k2 * d1 = D1 ∧ Nat.gcd N1 D1 = g3 ∧ 0 < g3 ∧ N1 / g3 = N2 ∧ D1 / g3 = D2 ∧ e1 ≤ e ∧ d1 ≤ d ∧ D1 ≤ 55440 ∧ N1 ≤ parts + e * (55440 / d) ∧ Inv (parts + e * (55440 / d)) N2 D2 := by
  have hd0 : 0 < d := by
    rcases Nat.eq_zero_or_pos d with q | q
    · obtain ⟨k, hk⟩ := hd; rw [q] at hk; simp at hk
    · exact q
  have hg1 : 0 < Nat.gcd e d := Nat.gcd_pos_of_pos_right _ hd0
  obtain ⟨e1, he⟩ := Nat.gcd_dvd_left e d
  obtain ⟨d1, hdd⟩ := Nat.gcd_dvd_right e d
  have qe : e / Nat.gcd e d = e1 := div_of he hg1
  have qd : d / Nat.gcd e d = d1 := div_of hdd hg1
  generalize hG1 : Nat.gcd e d = g1 at *
  have hd1 : d1 ∣ 55440 := Nat.dvd_trans ⟨g1, by rw [hdd, Nat.mul_comm]⟩ hd
  have hd10 : 0 < d1 := Nat.pos_of_ne_zero (fun q => by rw [q] at hdd; omega)
  have hD := h.dvd
  have hD0 := h.pos
  have hg2 : 0 < Nat.gcd D d1 := Nat.gcd_pos_of_pos_left _ hD0
  obtain ⟨k2, hk2⟩ := Nat.gcd_dvd_left D d1
  obtain ⟨k1, hk1⟩ := Nat.gcd_dvd_right D d1
  have qk2 : D / Nat.gcd D d1 = k2 := div_of hk2 hg2
  have qk1 : d1 / Nat.gcd D d1 = k1 := div_of hk1 hg2
  have hl : k2 * d1 = Nat.lcm D d1 := by
    rw [Nat.lcm, Nat.mul_comm D d1, Nat.mul_div_assoc _ (Nat.gcd_dvd_left D d1), qk2, Nat.mul_comm]
  have hl1 : k2 * d1 ∣ 55440 := by rw [hl]; exact Nat.lcm_dvd hD hd1
  have hl2 : D * k1 = k2 * d1 := by
    have a1 : D * k1 = Nat.gcd D d1 * k2 * k1 := by rw [← hk2]
    have a2 : k2 * d1 = k2 * (Nat.gcd D d1 * k1) := by rw [← hk1]
    rw [a1, a2, Nat.mul_comm (Nat.gcd D d1), Nat.mul_assoc]
  generalize hG2 : Nat.gcd D d1 = g2 at *
  have hk20 : 0 < k2 := Nat.pos_of_ne_zero (fun q => by rw [q] at hk2; omega)
  have hD1 : 0 < k2 * d1 := Nat.mul_pos hk20 hd10
  obtain ⟨K, hK⟩ := hd
  have hKd : 55440 / d = K := by rw [hK]; exact Nat.mul_div_cancel_left _ hd0
  have heq : (N * k1 + e1 * k2) * 55440 = (parts + e * K) * (k2 * d1) := by
    rw [Nat.add_mul, Nat.add_mul]
    have a1 : N * k1 * 55440 = parts * (k2 * d1) := by
      rw [Nat.mul_right_comm, h.eq, ← hl2, Nat.mul_assoc]
    have a2 : e1 * k2 * 55440 = e * K * (k2 * d1) := by
      rw [hK, hdd, he]
      simp only [Nat.mul_comm, Nat.mul_left_comm, Nat.mul_assoc]
    rw [a1, a2]
  have hle := Nat.le_of_dvd (by decide) hl1
  have hN1 : N * k1 + e1 * k2 ≤ parts + e * K := by
    have := Nat.mul_le_mul_left (parts + e * K) hle
    omega
  have hg3 : 0 < Nat.gcd (N * k1 + e1 * k2) (k2 * d1) := Nat.gcd_pos_of_pos_right _ hD1
  refine ⟨g1, e1, d1, g2, k1, k2, _, _, _, _, _, rfl, hg1, qe, qd, hG2, hg2, qk1, qk2, rfl, rfl, rfl, hg3, rfl, rfl, ?_, ?_, hle, by rw [hKd]; exact hN1, ?_⟩
  · rw [← qe]; exact Nat.div_le_self _ _
  · rw [← qd]; exact Nat.div_le_self _ _
  · rw [hKd]
    obtain ⟨N2, hN2⟩ := Nat.gcd_dvd_left (N * k1 + e1 * k2) (k2 * d1)
    obtain ⟨D2, hD2⟩ := Nat.gcd_dvd_right (N * k1 + e1 * k2) (k2 * d1)
    have c := Nat.coprime_div_gcd_div_gcd hg3
    have q1 : (N * k1 + e1 * k2) / Nat.gcd (N * k1 + e1 * k2) (k2 * d1) = N2 := div_of hN2 hg3
    have q2 : (k2 * d1) / Nat.gcd (N * k1 + e1 * k2) (k2 * d1) = D2 := div_of hD2 hg3
    rw [q1, q2] at c ⊢
    generalize Nat.gcd (N * k1 + e1 * k2) (k2 * d1) = g3 at *
    refine ⟨c, Nat.pos_of_ne_zero (fun q => by rw [q] at hD2; omega), ?_⟩
    rw [hN2, hD2] at heq
    have : g3 * (N2 * 55440) = g3 * ((parts + e * K) * D2) := by
      rw [← Nat.mul_assoc, heq]
      simp only [Nat.mul_comm, Nat.mul_left_comm]
    exact Nat.eq_of_mul_eq_mul_left hg3 this

end Go.Proofs.Ythpjjpgahmkpdaa
