/-
  Plain facts on floats: what has a word is written as that word; a float added to the nought is itself; a short float made wide and short again is itself.
-/
import Derived.Test.YthbhoppmdcfgeaaShort
import Derived.Test.YthbhoppmdcfgeaaSum
namespace Go.Proofs.Ythbhoppmdcfgeaa
open Ieee

theorem log2_shl (n d : Nat) (hn : n ≠ 0) : (n <<< d).log2 = n.log2 + d := by
  induction d with
  | zero => simp
  | succ d ih =>
    have h0 : n <<< d ≠ 0 := by
      rw [Nat.shiftLeft_eq]
      exact Nat.mul_ne_zero hn (by have := Nat.two_pow_pos d; omega)
    have e : n <<< (d + 1) = 2 * (n <<< d) := by rw [Nat.shiftLeft_eq, Nat.shiftLeft_eq, Nat.pow_succ]; rw [Nat.mul_comm 2, Nat.mul_assoc]
    rw [e, Nat.log2_two_mul h0, ih]
    omega
theorem cut_exact (s : Bool) (n d : Nat) (hn : n ≠ 0) : Toward.even.cut s (n <<< d) d = n := by
  have hm : min d ((n <<< d).log2 + 2) = d := by rw [log2_shl n d hn]; omega
  simp only [Toward.cut, hm]
  have hp := Nat.two_pow_pos d
  have e1 : n <<< d / 1 <<< d = n := by
    rw [Nat.shiftLeft_eq, Nat.shiftLeft_eq, Nat.one_mul, Nat.mul_div_cancel _ hp]
  have e2 : n <<< d % 1 <<< d = 0 := by
    rw [Nat.shiftLeft_eq, Nat.shiftLeft_eq, Nat.one_mul, Nat.mul_mod_left]
  rw [e1, e2]
  have e3 : (1 <<< d == 2 * 0) = false := by
    rw [Nat.shiftLeft_eq, Nat.one_mul]
    simp
  rw [e3]
  simp

theorem again64 (x : Nat) (hx : x < 18446744073709551616) (s : Bool) (n : Nat) (j : Int) (hr : double.read x = .number s n j) (hn : n ≠ 0) (d : Nat) : double.nearest s (n <<< d) (j - d) = x := by
  have hl : double.leastPlace = -1074 := rfl
  have hb : double.binade = 4503599627370496 := rfl
  have hi : double.infRung = 9218868437227405312 := rfl
  have hfb : (double.fractionBits : Int) = 52 := rfl
  have hw : ∀ (s : Bool) (r : Nat), double.word s r = if s then 9223372036854775808 + r else r := fun _ _ => rfl
  have key : max (j + (n.log2 : Int) - 52) (-1074) = j ∧ (j - (-1074)).toNat * 4503599627370496 + n = x % 9223372036854775808 ∧ x % 9223372036854775808 < 9218868437227405312 ∧ s = (x / 9223372036854775808 % 2 == 1) := by
    rw [read_double] at hr
    split at hr
    · rename_i h
      injection hr with h1 h2 h3
      subst h2 h3
      have : (x % 9223372036854775808).log2 < 52 := (Nat.log2_lt hn).2 h
      refine ⟨by omega, by omega, by omega, h1.symm⟩
    · split at hr
      · rename_i h1' h2'
        injection hr with h1 h2 h3
        have hlo : 4503599627370496 ≤ n := by omega
        have hhi : n < 9007199254740992 := by omega
        have e1 : n.log2 < 53 := (Nat.log2_lt hn).2 hhi
        have e2 : 52 ≤ n.log2 := (Nat.le_log2 hn).2 hlo
        refine ⟨by omega, ?_, h2', h1.symm⟩
        have h4 : (j - (-1074)).toNat = x % 9223372036854775808 / 4503599627370496 - 1 := by omega
        rw [h4]
        have h5 : 1 ≤ x % 9223372036854775808 / 4503599627370496 := by omega
        omega
      · split at hr <;> cases hr
  obtain ⟨k1, k2, k3, k4⟩ := key
  have hnd : n <<< d ≠ 0 := by
    rw [Nat.shiftLeft_eq]
    exact Nat.mul_ne_zero hn (by have := Nat.two_pow_pos d; omega)
  unfold Format.nearest
  rw [if_neg hnd, hl, hb, hi, hfb, log2_shl n d hn]
  have e1 : j - (d : Int) + ((n.log2 + d : Nat) : Int) - 52 = j + (n.log2 : Int) - 52 := by omega
  rw [e1, k1]
  have e2 : (j - (d : Int) - j).toNat = 0 := by omega
  have e3 : (j - (j - (d : Int))).toNat = d := by omega
  dsimp only
  rw [e2, e3, Nat.shiftLeft_zero, cut_exact s n d hn, k2, Nat.min_eq_left (by omega), hw, k4]
  have : x / 9223372036854775808 % 2 = x / 9223372036854775808 := by omega
  by_cases hx2 : x < 9223372036854775808
  · have h0 : x / 9223372036854775808 = 0 := Nat.div_eq_of_lt hx2
    rw [h0]
    simp only [Nat.zero_mod]
    rw [if_neg (by decide)]
    omega
  · have h0 : x / 9223372036854775808 = 1 := by omega
    rw [h0]
    rw [if_pos (by decide)]
    omega

theorem again32 (x : Nat) (hx : x < 4294967296) (s : Bool) (n : Nat) (j : Int) (hr : single.read x = .number s n j) (hn : n ≠ 0) (d : Nat) : single.nearest s (n <<< d) (j - d) = x := by
  have hl : single.leastPlace = -149 := rfl
  have hb : single.binade = 8388608 := rfl
  have hi : single.infRung = 2139095040 := rfl
  have hfb : (single.fractionBits : Int) = 23 := rfl
  have hw : ∀ (s : Bool) (r : Nat), single.word s r = if s then 2147483648 + r else r := fun _ _ => rfl
  have key : max (j + (n.log2 : Int) - 23) (-149) = j ∧ (j - (-149)).toNat * 8388608 + n = x % 2147483648 ∧ x % 2147483648 < 2139095040 ∧ s = (x / 2147483648 % 2 == 1) := by
    rw [read_single] at hr
    split at hr
    · rename_i h
      injection hr with h1 h2 h3
      subst h2 h3
      have : (x % 2147483648).log2 < 23 := (Nat.log2_lt hn).2 h
      refine ⟨by omega, by omega, by omega, h1.symm⟩
    · split at hr
      · rename_i h1' h2'
        injection hr with h1 h2 h3
        have hlo : 8388608 ≤ n := by omega
        have hhi : n < 16777216 := by omega
        have e1 : n.log2 < 24 := (Nat.log2_lt hn).2 hhi
        have e2 : 23 ≤ n.log2 := (Nat.le_log2 hn).2 hlo
        refine ⟨by omega, ?_, h2', h1.symm⟩
        have h4 : (j - (-149)).toNat = x % 2147483648 / 8388608 - 1 := by omega
        rw [h4]
        have h5 : 1 ≤ x % 2147483648 / 8388608 := by omega
        omega
      · split at hr <;> cases hr
  obtain ⟨k1, k2, k3, k4⟩ := key
  have hnd : n <<< d ≠ 0 := by
    rw [Nat.shiftLeft_eq]
    exact Nat.mul_ne_zero hn (by have := Nat.two_pow_pos d; omega)
  unfold Format.nearest
  rw [if_neg hnd, hl, hb, hi, hfb, log2_shl n d hn]
  have e1 : j - (d : Int) + ((n.log2 + d : Nat) : Int) - 23 = j + (n.log2 : Int) - 23 := by omega
  rw [e1, k1]
  have e2 : (j - (d : Int) - j).toNat = 0 := by omega
  have e3 : (j - (j - (d : Int))).toNat = d := by omega
  dsimp only
  rw [e2, e3, Nat.shiftLeft_zero, cut_exact s n d hn, k2, Nat.min_eq_left (by omega), hw, k4]
  have : x / 2147483648 % 2 = x / 2147483648 := by omega
  by_cases hx2 : x < 2147483648
  · have h0 : x / 2147483648 = 0 := Nat.div_eq_of_lt hx2
    rw [h0]
    simp only [Nat.zero_mod]
    rw [if_neg (by decide)]
    omega
  · have h0 : x / 2147483648 = 1 := by omega
    rw [h0]
    rw [if_pos (by decide)]
    omega

/-- A good float added to the nought is itself. -/
theorem zero_add_bits (x : Nat) (hx : x < 18446744073709551616) (hg : good x = true) : floatBits .add .f64 0 x = some x := by
  have e : floatBits .add .f64 0 x = ((double.read 0).sum (double.read x)).map double.write := rfl
  have h0 : double.read 0 = .number false 0 (-1074) := rfl
  rw [e, h0]
  have hf := good_fin hg
  have hz := good_ne hg
  rcases read_cases x with ⟨n, j, hr, hx1, hj, _, _, hn⟩ | ⟨hr, h2⟩ | ⟨t, hr, h2⟩
  · rw [hr]
    simp only [Datum.sum, Option.map_some, Option.some.injEq, Format.write]
    have hb : min (-1074) j = -1074 := by omega
    rw [hb, (signed_zero false 0 _).2 rfl, Int.zero_add]
    by_cases hn0 : n = 0
    · subst hn0
      rw [(signed_zero _ 0 _).2 rfl]
      have := hn.1 rfl
      have e3 : double.nearest false 0 (-1074) = 0 := rfl
      simp only [if_true, Int.natAbs_zero, Bool.false_and]
      rw [e3]
      omega
    · have hs : signed (x / 9223372036854775808 % 2 == 1) n (j - -1074).toNat ≠ 0 := fun h => hn0 ((signed_zero _ _ _).1 h)
      rw [if_neg hs]
      have hpos : 0 < n <<< (j - -1074).toNat := by
        rw [Nat.shiftLeft_eq]; exact Nat.mul_pos (by omega) (Nat.two_pow_pos _)
      have ha := again64 x hx _ n j hr hn0 (j - -1074).toNat
      have hjd : j - ((j - -1074).toNat : Int) = -1074 := by omega
      rw [hjd] at ha
      have sf : ∀ m k, signed false m k = ((m <<< k : Nat) : Int) := fun _ _ => rfl
      have st : ∀ m k, signed true m k = -((m <<< k : Nat) : Int) := fun _ _ => rfl
      cases hb : (x / 9223372036854775808 % 2 == 1)
      · rw [hb] at ha
        rw [sf]
        obtain ⟨A, hA⟩ : ∃ A, n <<< (j - -1074).toNat = A := ⟨_, rfl⟩
        rw [hA] at ha hpos ⊢
        have e1 : decide (((A : Nat) : Int) < 0) = false := by simp
        have e2 : ((A : Nat) : Int).natAbs = A := by omega
        rw [e1, e2, ha]
      · rw [hb] at ha
        rw [st]
        obtain ⟨A, hA⟩ : ∃ A, n <<< (j - -1074).toNat = A := ⟨_, rfl⟩
        rw [hA] at ha hpos ⊢
        have e1 : decide (-((A : Nat) : Int) < 0) = true := by simp; omega
        have e2 : (-((A : Nat) : Int)).natAbs = A := by omega
        rw [e1, e2, ha]
  · simp [fin] at hf; omega
  · simp [fin] at hf; omega

/-- What is not finite stays so, whatever good float is added. -/
theorem inf_add (a : Option Nat) (x : Nat) (h : finO a = false) (hg : good x = true) : finO (opN .add a (nrm x)) = false := by
  rw [opN_add_comm, nrm_fin (good_fin hg)]
  cases a with
  | none => rfl
  | some y => exact add_inf x y h (good_fin hg)
theorem acc_from (l : List Nat) (a : Option Nat) (hg : l.all good = true) (h : finO (l.foldl (fun a x => opN .add a (nrm x)) a) = true) : finO a = true := by
  induction l generalizing a with
  | nil => exact h
  | cons x l ih =>
    simp only [List.all_cons, Bool.and_eq_true] at hg
    have h1 := ih (opN .add a (nrm x)) hg.2 h
    cases h2 : finO a with
    | true => rfl
    | false => rw [inf_add a x h2 hg.1] at h1; cases h1
theorem acc_split (xs : List Nat) (k : Nat) : accO xs = (xs.drop k).foldl (fun a x => opN .add a (nrm x)) (accO (xs.take k)) := by
  conv => lhs; rw [← List.take_append_drop k xs]
  simp only [accO, List.foldl_append]

/-- A sum that goes on from a beginning's sum. -/
theorem sum_goes_on (xs : List Nat) (k : Nat) (hk : 0 < k) (hk2 : k ≤ xs.length) (h : (sumM xs).2 = true) :
    (sumM (xs.take k)).2 = true ∧ sumM ((sumM (xs.take k)).1 :: xs.drop k) = sumM xs := by
  unfold sumM at h
  split at h
  · rename_i hc
    simp only [Bool.and_eq_true, decide_eq_true_eq] at hc
    obtain ⟨⟨hl, hg⟩, hf⟩ := hc
    have hall : (xs.take k).all good = true ∧ (xs.drop k).all good = true := by
      rw [← List.take_append_drop k xs, List.all_append, Bool.and_eq_true] at hg
      exact hg
    rw [acc_split xs k] at hf
    have hft := acc_from _ _ hall.2 hf
    have hlt : (xs.take k).length ≤ 64 := by rw [List.length_take]; omega
    have e1 : sumM (xs.take k) = (plainO (accO (xs.take k)), true) := by
      simp only [sumM, hall.1, hft, hlt, decide_true, Bool.and_self, if_true]
    cases ha : accO (xs.take k) with
    | none => rw [ha] at hft; cases hft
    | some s =>
      have hp := acc_plain _ _ ha
      rw [ha] at hft
      have hfs : fin s = true := hft
      have hgs : good s = true := by simp [good, hfs, hp.2]
      have e2 : plainO (accO (xs.take k)) = s := by rw [ha]; exact plain_self hp.1 hp.2
      rw [e1, e2]
      refine ⟨rfl, ?_⟩
      have e3 : accO (s :: xs.drop k) = accO xs := by
        rw [acc_split xs k, ha]
        show (xs.drop k).foldl _ (opN .add (some 0) (nrm s)) = _
        rw [nrm_fin hfs]
        show (xs.drop k).foldl _ (floatBits .add .f64 0 s) = _
        rw [zero_add_bits s hp.1 hgs]
      have hl2 : (s :: xs.drop k).length ≤ 64 := by rw [List.length_cons, List.length_drop]; omega
      have hg2 : (s :: xs.drop k).all good = true := by simp only [List.all_cons, hgs, hall.2, Bool.and_self]
      have hg3 : xs.all good = true := hg
      unfold sumM
      rw [e3, hg2, hg3]
      simp only [hl, hl2]
  · cases h

theorem opp_and (a b c d : Bool) : ((a && b) && (c && d)) = ((c && d) && (a && b)) := Bool.and_comm _ _
/-- Products of turns do not hang on their order. -/
theorem mul_turn_comm (a b c d : Nat) : mulM a b c d = mulM c d a b := by
  unfold mulM mulO
  rw [opp_and, opN_mul_comm (nrm c) (nrm a), opN_mul_comm (nrm d) (nrm b), opN_mul_comm (nrm c) (nrm b), opN_mul_comm (nrm d) (nrm a), opN_add_comm (opN .mul (nrm b) (nrm c))]
end Go.Proofs.Ythbhoppmdcfgeaa
