/-
  Fillings counted by digits, free of the program.
-/
import Derived.Test.YtopakblckajdmaaFillH14
namespace Go.Proofs.Ytopakblckajdmaa
open Go.ChangeShapes Go.WideShapes Go.ChangeAt Go.RowKit

set_option maxRecDepth 100000
set_option linter.unusedVariables false
/-- The k-th of K digits of n to the base s, the first one first. -/
def dig (s K n k : Nat) : Nat := n / s ^ (K - 1 - k) % s
theorem dig_succ {s K n k : Nat} (hk : k < K) : dig s (K + 1) n k = dig s K (n / s) k := by
  unfold dig
  rw [show K + 1 - 1 - k = (K - 1 - k) + 1 by omega, Nat.pow_succ, Nat.mul_comm, Nat.div_div_eq_div_mul]
theorem dig_last (s K n : Nat) : dig s (K + 1) n K = n % s := by
  unfold dig
  rw [show K + 1 - 1 - K = 0 by omega, Nat.pow_zero, Nat.div_one]
theorem dig_lt {s K n k : Nat} (hs : 0 < s) : dig s K n k < s := Nat.mod_lt _ hs
theorem dig_lex {s : Nat} (hs : 0 < s) : ∀ (K n n' : Nat), n < n' → n' < s ^ K → ∃ j, j < K ∧ (∀ i, i < j → dig s K n i = dig s K n' i) ∧ dig s K n j < dig s K n' j
  | 0, n, n', h1, h2 => by simp at h2; omega
  | K + 1, n, n', h1, h2 => by
    have h3 : n' / s < s ^ K := Nat.div_lt_of_lt_mul (by rw [Nat.pow_succ, Nat.mul_comm] at h2; exact h2)
    have h4 : n / s ≤ n' / s := Nat.div_le_div_right (Nat.le_of_lt h1)
    by_cases h : n / s = n' / s
    · refine ⟨K, by omega, fun i hi => by rw [dig_succ hi, dig_succ hi, h], ?_⟩
      rw [dig_last, dig_last]
      have e1 := Nat.div_add_mod n s
      have e2 := Nat.div_add_mod n' s
      rw [h] at e1
      omega
    · obtain ⟨j, hj, ha, hl⟩ := dig_lex hs K (n / s) (n' / s) (by omega) h3
      exact ⟨j, by omega, fun i hi => by rw [dig_succ (by omega), dig_succ (by omega)]; exact ha i hi, by rw [dig_succ hj, dig_succ hj]; exact hl⟩
theorem dig_of {s : Nat} (hs : 0 < s) : ∀ (K : Nat) (c : Nat → Nat), (∀ k, k < K → c k < s) → ∃ n, n < s ^ K ∧ ∀ k, k < K → dig s K n k = c k
  | 0, c, _ => ⟨0, by simp, fun k hk => by omega⟩
  | K + 1, c, hc => by
    obtain ⟨n, hn, h⟩ := dig_of hs K c (fun k hk => hc k (by omega))
    have hl := hc K (by omega)
    refine ⟨n * s + c K, ?_, fun k hk => ?_⟩
    · rw [Nat.pow_succ]
      have : (n + 1) * s ≤ s ^ K * s := Nat.mul_le_mul_right s hn
      rw [Nat.add_mul, Nat.one_mul] at this
      omega
    · by_cases hkK : k = K
      · subst hkK
        rw [dig_last, Nat.mul_comm, Nat.mul_add_mod, Nat.mod_eq_of_lt hl]
      · rw [dig_succ (by omega)]
        have : (n * s + c K) / s = n := by rw [Nat.mul_comm, Nat.mul_add_div hs, Nat.div_eq_of_lt hl, Nat.add_zero]
        rw [this]
        exact h k (by omega)
/-- The n-th filling: its open places by the digits of n. -/
def nthL (s : Nat) (l0 : List Int) (n : Nat) : List Int := (List.range l0.length).map fun i => if l0.getD i 0 = -1 then ((dig s (openL l0).length n ((openL l0).idxOf (i : Int)) : Nat) : Int) else l0.getD i 0
theorem nthL_len (s : Nat) (l0 : List Int) (n : Nat) : (nthL s l0 n).length = l0.length := by simp [nthL]
theorem nthL_get {s n i : Nat} {l0 : List Int} (hi : i < l0.length) : (nthL s l0 n).getD i 0 = if l0.getD i 0 = -1 then ((dig s (openL l0).length n ((openL l0).idxOf (i : Int)) : Nat) : Int) else l0.getD i 0 := by
  rw [List.getD_eq_getElem?_getD]
  unfold nthL
  rw [List.getElem?_map, List.getElem?_range hi]
  rfl
theorem plc_idx {l0 : List Int} {k : Nat} (h : k < (openL l0).length) : (openL l0).idxOf (plc l0 k : Int) = k := by
  have hg := (plc_get h).1
  have hm : (plc l0 k : Int) ∈ openL l0 := List.mem_of_getElem? hg
  have hi := List.idxOf_lt_length_of_mem hm
  have he : (openL l0)[(openL l0).idxOf (plc l0 k : Int)] = (plc l0 k : Int) := List.getElem_idxOf hi
  by_cases hne : (openL l0).idxOf (plc l0 k : Int) = k
  · exact hne
  · have h2 := (plc_get hi).1
    rw [List.getElem?_eq_getElem hi, he] at h2
    have h3 := plc_ne hi h hne
    have := Option.some.inj h2
    omega
theorem nthL_plc {s n k : Nat} {l0 : List Int} (h : k < (openL l0).length) : (nthL s l0 n).getD (plc l0 k) 0 = (dig s (openL l0).length n k : Nat) := by
  have hp := plc_get h
  rw [nthL_get hp.2.1, if_pos hp.2.2, plc_idx h]
theorem nthL_comp {r : RulesD} {W H : Int} {l0 : List Int} {n : Nat} (hF : FieldP r.1 (W, H, l0)) (hr : 1 ≤ r.1) : Comp r.1 l0 (nthL r.1.toNat l0 n) := by
  refine ⟨nthL_len _ _ _, fun i hi h0 => by rw [nthL_get hi, if_neg h0], fun i hi => ?_⟩
  rw [nthL_get hi]
  split
  · have := dig_lt (s := r.1.toNat) (K := (openL l0).length) (n := n) (k := (openL l0).idxOf (i : Int)) (by omega)
    omega
  · next h0 =>
    have := hF.2.2.2 i hi _ (get_getD hi)
    dsimp only at this
    omega
/-- Each filling is one of them. -/
theorem nth_of {s : Int} {l0 m : List Int} (hs : 1 ≤ s) (hc : Comp s l0 m) : ∃ n, n < s.toNat ^ (openL l0).length ∧ m = nthL s.toNat l0 n := by
  obtain ⟨n, hn, hd⟩ := dig_of (s := s.toNat) (by omega) (openL l0).length (fun k => (m.getD (plc l0 k) 0).toNat) (fun k hk => by have := hc.inn _ (plc_get hk).2.1; omega)
  refine ⟨n, hn, ?_⟩
  apply List.ext_getElem?
  intro i
  by_cases hi : i < l0.length
  · rw [get_getD (by rw [hc.len]; exact hi), get_getD (by rw [nthL_len]; exact hi)]
    congr 1
    by_cases h0 : l0.getD i 0 = -1
    · obtain ⟨k, hk, rfl⟩ := plc_of hi h0
      rw [nthL_plc hk, hd k hk]
      have := hc.inn _ hi
      omega
    · rw [nthL_get hi, if_neg h0, hc.off i hi h0]
  · rw [List.getElem?_eq_none (by rw [hc.len]; omega), List.getElem?_eq_none (by rw [nthL_len]; omega)]
theorem nth_less {s : Int} {l0 : List Int} {n n' : Nat} (hs : 1 ≤ s) (h1 : n < n') (h2 : n' < s.toNat ^ (openL l0).length) : LessB l0 (nthL s.toNat l0 n') (nthL s.toNat l0 n) (openL l0).length := by
  obtain ⟨j, hj, ha, hl⟩ := dig_lex (s := s.toNat) (by omega) (openL l0).length n n' h1 h2
  refine ⟨j, hj, fun i hi => ?_, ?_⟩
  · rw [nthL_plc (by omega), nthL_plc (by omega), ha i hi]
  · rw [nthL_plc hj, nthL_plc hj]
    omega
/-- The first of the fillings that holds, held against what was found. -/
theorem first_ok {r : RulesD} {f : FieldD} (hg : GoodP r f) {x : Bool × List Int × Nat} (hx : FillOk r f.1 f.2.1 f.2.2 x) (h5 : x.1 = true ∨ x.2.2 ≠ 5000) {n : Nat} (hn : n < r.1.toNat ^ (openL f.2.2).length)
    (hno : ∀ j, j < n → ¬ HoldsP r (f.1, f.2.1, nthL r.1.toNat f.2.2 j)) (hh : HoldsP r (f.1, f.2.1, nthL r.1.toNat f.2.2 n)) : x.1 = true ∧ nthL r.1.toNat f.2.2 n = x.2.1 := by
  have hr := hg.1.1.1
  have hc := nthL_comp (n := n) (show FieldP r.1 (f.1, f.2.1, f.2.2) from hg.2) hr
  have hf : x.1 = true := by
    cases hq : x.1 with
    | true => rfl
    | false =>
      have h6 : x.2.2 ≠ 5000 := by
        rcases h5 with h | h
        · rw [hq] at h; cases h
        · exact h
      exact absurd hh (hx.2.2 hq h6 _ hc)
  refine ⟨hf, ?_⟩
  obtain ⟨c1, c2, c3⟩ := hx.2.1 hf
  obtain ⟨n', hn', e⟩ := nth_of hr c1
  rw [e] at c2 c3 ⊢
  by_cases h1 : n' < n
  · exact absurd c2 (hno n' h1)
  · by_cases h2 : n < n'
    · exact absurd (nth_less hr h2 hn') (c3 _ hc hh)
    · rw [show n = n' by omega]
theorem none_ok {r : RulesD} {f : FieldD} (hg : GoodP r f) {x : Bool × List Int × Nat} (hx : FillOk r f.1 f.2.1 f.2.2 x) (hno : ∀ j, j < r.1.toNat ^ (openL f.2.2).length → ¬ HoldsP r (f.1, f.2.1, nthL r.1.toNat f.2.2 j)) : x.1 = false := by
  cases hq : x.1 with
  | false => rfl
  | true =>
    obtain ⟨c1, c2, _⟩ := hx.2.1 hq
    obtain ⟨n', hn', e⟩ := nth_of hg.1.1.1 c1
    rw [e] at c2
    exact absurd c2 (hno n' hn')

end Go.Proofs.Ytopakblckajdmaa
