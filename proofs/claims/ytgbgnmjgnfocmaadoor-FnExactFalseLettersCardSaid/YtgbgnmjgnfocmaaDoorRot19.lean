/-
  Letters turned, bytes and runes: free of the program.
-/
import Derived.Test.YtgbgnmjgnfocmaaDoorRunP18
import Derived.Lib.MapLaws
import Derived.Lib.ValidLaws
import Derived.Lib.CutLaws
import Derived.Lib.IndexBytes
namespace Go.Proofs.YtgbgnmjgnfocmaaDoor
open Go.ChangeShapes Go.WideShapes Go.ChangeAt Go.RowKit

set_option maxRecDepth 100000
set_option linter.unusedVariables false

/-- The letter thirteen further on in its row. -/
def turnZ (r : Int) : Int := if 97 ≤ r ∧ r ≤ 122 then 97 + (r - 97 + 13) % 26 else if 65 ≤ r ∧ r ≤ 90 then 65 + (r - 65 + 13) % 26 else r
def rotB (c : UInt8) : UInt8 := (turnZ (c.toNat : Int)).toNat.toUInt8
def rotL (l : List UInt8) : List UInt8 := l.map rotB
theorem turnZ_low (r : Int) (h : 0 ≤ r) (h2 : r < 128) : 0 ≤ turnZ r ∧ turnZ r < 128 := by
  unfold turnZ
  split
  · omega
  · split <;> omega
theorem turnZ_high (r : Int) (h : 128 ≤ r) : turnZ r = r := by unfold turnZ; rw [if_neg (by omega), if_neg (by omega)]
theorem toNat_toUInt8 (z : Int) (h : 0 ≤ z) (h2 : z < 256) : ((z.toNat.toUInt8).toNat : Int) = z := by
  have : z.toNat % 256 = z.toNat := Nat.mod_eq_of_lt (by omega)
  simp only [Nat.toUInt8, UInt8.toNat_ofNat', this]
  omega
theorem rotB_nat (c : UInt8) : ((rotB c).toNat : Int) = turnZ (c.toNat : Int) := by
  have hc : c.toNat < 256 := c.toNat_lt
  unfold rotB
  by_cases h : (c.toNat : Int) < 128
  · have := turnZ_low (c.toNat : Int) (by omega) h
    exact toNat_toUInt8 _ this.1 (by omega)
  · rw [turnZ_high _ (by omega)]
    exact toNat_toUInt8 _ (by omega) (by omega)
theorem rotB_high (c : UInt8) (h : 128 ≤ c.toNat) : rotB c = c := by
  apply UInt8.toNat_inj.1
  have := rotB_nat c
  rw [turnZ_high _ (by omega)] at this
  omega
theorem rotB_of (c d : UInt8) (h : turnZ (c.toNat : Int) = (d.toNat : Int)) : rotB c = d := by
  apply UInt8.toNat_inj.1
  have := rotB_nat c
  omega
/-- What a decoder takes in one step: one low byte, or high bytes alone, or it fails. -/
theorem step (l : List UInt8) (hne : l ≠ []) : ((l.getD 0 0).toNat < 128 ∧ Lib.decodeL l = ((l.getD 0 0).toNat, 1)) ∨
    (128 ≤ (l.getD 0 0).toNat ∧ 128 ≤ (Lib.decodeL l).1 ∧ 2 ≤ (Lib.decodeL l).2 ∧ (Lib.decodeL l).2 ≤ l.length ∧ (∀ i, i < (Lib.decodeL l).2 → 128 ≤ (l.getD i 0).toNat) ∧
      ∀ m : List UInt8, (Lib.decodeL l).2 ≤ m.length → (∀ i, i < (Lib.decodeL l).2 → m.getD i 0 = l.getD i 0) → Lib.decodeL m = Lib.decodeL l) ∨
    Lib.decodeL l = (65533, 1) := by
  have key := Lib.decodeL_N l
  have hs := Lib.decodeN_shape l.length (l.getD 0 0).toNat (l.getD 1 0).toNat (l.getD 2 0).toNat (l.getD 3 0).toNat
  rw [← key] at hs
  rcases hs with ⟨h0, h1⟩ | ⟨h0, hn, h1, h2, h3⟩ | ⟨h0, hn, h1, h1', h2, h2', h3⟩ | ⟨h0, hn, h1, h1', h1'', h2, h2', h3⟩ | h
  · exact .inl ⟨h0, h1⟩
  · refine .inr (.inl ?_)
    rw [h3]
    refine ⟨by omega, h2, by simp only; omega, hn, fun i hi => ?_, fun m hm hg => ?_⟩
    · have : i = 0 ∨ i = 1 := by simp only at hi; omega
      rcases this with rfl | rfl <;> omega
    · rw [Lib.decodeL_N m, hg 0 (by simp only; omega), hg 1 (by simp only; omega)]
      have hm2 : 1 < m.length := hm
      unfold Lib.decodeN
      rw [if_neg (by omega), if_pos ⟨h0, hm2, h1⟩, if_pos h2]
  · refine .inr (.inl ?_)
    rw [h3]
    refine ⟨by omega, by simp only; omega, by simp only; omega, hn, fun i hi => ?_, fun m hm hg => ?_⟩
    · have : i = 0 ∨ i = 1 ∨ i = 2 := by simp only at hi; omega
      rcases this with rfl | rfl | rfl <;> omega
    · rw [Lib.decodeL_N m, hg 0 (by simp only; omega), hg 1 (by simp only; omega), hg 2 (by simp only; omega)]
      have hm2 : 2 < m.length := hm
      unfold Lib.decodeN
      rw [if_neg (by omega), if_neg (by omega), if_pos ⟨h0, ⟨by omega, h1⟩, hm2, h1'⟩, if_pos ⟨h2, by omega⟩]
  · refine .inr (.inl ?_)
    rw [h3]
    refine ⟨by omega, by simp only; omega, by simp only; omega, hn, fun i hi => ?_, fun m hm hg => ?_⟩
    · have : i = 0 ∨ i = 1 ∨ i = 2 ∨ i = 3 := by simp only at hi; omega
      rcases this with rfl | rfl | rfl | rfl <;> omega
    · rw [Lib.decodeL_N m, hg 0 (by simp only; omega), hg 1 (by simp only; omega), hg 2 (by simp only; omega), hg 3 (by simp only; omega)]
      have hm2 : 3 < m.length := hm
      unfold Lib.decodeN
      rw [if_neg (by omega), if_neg (by omega), if_neg (by omega), if_pos ⟨h0, ⟨by omega, h1⟩, ⟨by omega, h1'⟩, hm2, h1''⟩, if_pos ⟨h2, by omega⟩]
  · exact .inr (.inr h)
theorem valid_bad {l : List UInt8} (hne : l ≠ []) (h : Lib.decodeL l = (65533, 1)) : Lib.validD l = false := by
  rw [Lib.validD_step l hne, h]
  rfl
theorem valid_next {l : List UInt8} (hne : l ≠ []) (hv : Lib.validD l = true) : Lib.validD (l.drop (Lib.decodeL l).2) = true := by
  rw [Lib.validD_step l hne] at hv
  split at hv
  · cases hv
  · exact hv
theorem rotL_take (l : List UInt8) (k : Nat) (h : ∀ i, i < k → 128 ≤ (l.getD i 0).toNat) : rotL (l.take k) = l.take k := by
  unfold rotL
  apply List.ext_getElem?
  intro i
  rw [List.getElem?_map, List.getElem?_take]
  split
  · rename_i hi
    cases hg : l[i]? with
    | none => rfl
    | some c =>
      have := h i hi
      rw [List.getD, hg] at this
      simp only [Option.getD_some] at this
      simp [rotB_high c this]
  · rfl
/-- Over UTF-8 the runes' letters are turned byte by byte. -/
theorem map_rot : ∀ (n : Nat) (l : List UInt8), l.length ≤ n → Lib.validD l = true → Lib.mapD turnZ l = rotL l
  | 0, l, hn, _ => by
    obtain rfl : l = [] := List.eq_nil_of_length_eq_zero (by omega)
    rfl
  | n + 1, l, hn, hv => by
    by_cases hne : l = []
    · subst hne; rfl
    have hl : 0 < l.length := List.length_pos_iff.2 hne
    have hk1 := Lib.decodeL_width l
    have hr := map_rot n (l.drop (Lib.decodeL l).2) (by rw [List.length_drop]; omega) (valid_next hne hv)
    have hsplit : rotL l = rotL (l.take (Lib.decodeL l).2) ++ rotL (l.drop (Lib.decodeL l).2) := by
      unfold rotL
      rw [← List.map_append, List.take_append_drop]
    rcases step l hne with ⟨h0, h1⟩ | ⟨h0, h1, h2, h3, h4, _⟩ | h
    · rw [Lib.mapD_step turnZ l hne, hr, hsplit, h1]
      have ht := turnZ_low ((l.getD 0 0).toNat : Int) (by omega) (by omega)
      rw [if_pos ht.1]
      congr 1
      rw [Lib.takeA l hl]
      show _ = [rotB (l.getD 0 0)]
      have e := rotB_nat (l.getD 0 0)
      simp only
      rw [← e]
      unfold Lib.encodeRune
      rw [Lib.encodeRuneZ_one (by omega) (by omega)]
      simp
    · rw [Lib.mapD_same turnZ l hne (turnZ_high _ (by omega)) (by omega), hr, hsplit, rotL_take l _ h4]
    · rw [valid_bad hne h] at hv
      cases hv
/-- What is valid is so ahead of a low byte and behind it. -/
theorem valid_split : ∀ (n : Nat) (a b : List UInt8) (c : UInt8), a.length ≤ n → c.toNat < 128 → Lib.validD (a ++ c :: b) = true → Lib.validD a = true ∧ Lib.validD b = true
  | 0, a, b, c, hn, hc, hv => by
    obtain rfl : a = [] := List.eq_nil_of_length_eq_zero (by omega)
    rw [List.nil_append, Lib.validD_cons c b hc] at hv
    exact ⟨rfl, hv⟩
  | n + 1, a, b, c, hn, hc, hv => by
    by_cases hne : a = []
    · subst hne
      rw [List.nil_append, Lib.validD_cons c b hc] at hv
      exact ⟨rfl, hv⟩
    have ha : 0 < a.length := List.length_pos_iff.2 hne
    have hne2 : a ++ c :: b ≠ [] := by simp
    have hget : ∀ i, i < a.length → (a ++ c :: b).getD i 0 = a.getD i 0 := fun i hi => by simp [List.getD, List.getElem?_append_left hi]
    have hcat : (a ++ c :: b).getD a.length 0 = c := by simp [List.getD]
    have hnx := valid_next hne2 hv
    rcases step (a ++ c :: b) hne2 with ⟨h0, h1⟩ | ⟨h0, h1, h2, h3, h4, h5⟩ | h
    · rw [h1] at hnx
      rw [hget 0 ha] at h0
      obtain ⟨x, t, rfl⟩ : ∃ x t, a = x :: t := by cases a with | nil => exact absurd rfl hne | cons x t => exact ⟨x, t, rfl⟩
      simp only [List.cons_append, List.drop_succ_cons, List.drop_zero] at hnx
      simp only [List.length_cons] at hn
      have := valid_split n t b c (by omega) hc hnx
      refine ⟨?_, this.2⟩
      rw [Lib.validD_cons x t (by simpa using h0)]
      exact this.1
    · have hk : (Lib.decodeL (a ++ c :: b)).2 ≤ a.length := by
        rcases Nat.lt_or_ge a.length (Lib.decodeL (a ++ c :: b)).2 with h | h
        · have := h4 a.length h
          rw [hcat] at this
          omega
        · exact h
      have hd := h5 a hk (fun i hi => (hget i (by omega)).symm)
      rw [List.drop_append_of_le_length hk] at hnx
      have := valid_split n (a.drop (Lib.decodeL (a ++ c :: b)).2) b c (by rw [List.length_drop]; omega) hc hnx
      refine ⟨?_, this.2⟩
      rw [Lib.validD_step a hne, hd, if_neg (by omega)]
      exact this.1
    · rw [valid_bad hne2 h] at hv
      cases hv
/-- A text none of whose runes is 65533 is valid. -/
theorem valid_runes (s : ByteArray) : ∀ (b p : Nat), s.size ≤ p + b → (∀ r ∈ runesF s b p, r ≠ 65533) → Lib.validD (s.data.toList.drop p) = true
  | 0, p, hb, _ => by
    rw [List.drop_eq_nil_of_le (by rw [← Lib.size_eq]; omega)]
    rfl
  | b + 1, p, hb, h => by
    by_cases hp : p < s.size
    · rw [runesF_step s b p hp] at h
      have h1 := h _ (List.mem_cons_self ..)
      have h2 := valid_runes s b (p + (runM s p).2) (by have := wid_pos s p hp; omega) (fun r hr => h r (List.mem_cons_of_mem _ hr))
      have hne : s.data.toList.drop p ≠ [] := fun e => by
        have := congrArg List.length e
        rw [List.length_drop, ← Lib.size_eq] at this
        simp at this
        omega
      rw [Lib.validD_step _ hne, Lib.decodeL_drop, if_neg (fun e => h1 (by rw [show (runM s p).1 = 65533 from e.1]; rfl)), List.drop_drop]
      exact h2
    · rw [List.drop_eq_nil_of_le (by rw [← Lib.size_eq]; omega)]
      rfl
/-- The text with its letters turned, but for what stands in brackets. -/
def nb (c : UInt8) : Bool := c != 125
def flF : Nat → List UInt8 → List UInt8
  | 0, _ => []
  | _ + 1, [] => []
  | n + 1, c :: t => if c = 123 then (match t.dropWhile nb with
      | [] => c :: flF n t
      | d :: r => c :: (t.takeWhile nb ++ d :: flF n r)) else rotB c :: flF n t
def fl (l : List UInt8) : List UInt8 := flF l.length l
theorem flF_nil (n : Nat) : flF n [] = [] := by cases n <;> rfl
theorem flF_fuel : ∀ (n m : Nat) (l : List UInt8), l.length ≤ n → l.length ≤ m → flF n l = flF m l
  | n, m, [], _, _ => by rw [flF_nil, flF_nil]
  | 0, _, c :: t, h, _ => by simp at h
  | n + 1, 0, c :: t, _, h => by simp at h
  | n + 1, m + 1, c :: t, hn, hm => by
    simp only [List.length_cons] at hn hm
    have e1 : flF n t = flF m t := flF_fuel n m t (by omega) (by omega)
    simp only [flF]
    split
    · split
      · rw [e1]
      · rename_i d r hr
        have h2 := congrArg List.length (List.takeWhile_append_dropWhile (p := nb) (l := t))
        rw [List.length_append, hr] at h2
        simp only [List.length_cons] at h2
        rw [flF_fuel n m r (by omega) (by omega)]
    · rw [e1]
theorem fl_cons (c : UInt8) (t : List UInt8) : fl (c :: t) = if c = 123 then (match t.dropWhile nb with
      | [] => c :: fl t
      | d :: r => c :: (t.takeWhile nb ++ d :: fl r)) else rotB c :: fl t := by
  show flF (t.length + 1) (c :: t) = _
  simp only [flF]
  split
  · split
    · rfl
    · rename_i d r hr
      have h2 := congrArg List.length (List.takeWhile_append_dropWhile (p := nb) (l := t))
      rw [List.length_append, hr] at h2
      simp only [List.length_cons] at h2
      rw [flF_fuel t.length r.length r (by omega) (Nat.le_refl _)]
      rfl
  · rfl
theorem fl_nil : fl [] = [] := rfl
theorem fl_plain {c : UInt8} (t : List UInt8) (h : c ≠ 123) : fl (c :: t) = rotB c :: fl t := by rw [fl_cons, if_neg h]
theorem fl_lone {t : List UInt8} (h : (125 : UInt8) ∉ t) : fl (123 :: t) = 123 :: fl t := by
  have hd : t.dropWhile nb = [] := by
    rw [← List.append_nil t, List.dropWhile_append_of_pos (fun a ha => by
      simp only [nb, bne_iff_ne, ne_eq]
      exact fun e => h (e ▸ ha))]
    rfl
  rw [fl_cons, if_pos rfl]
  split
  · rfl
  · rename_i d r hr
    rw [hd] at hr
    cases hr
theorem fl_open {b r : List UInt8} (h : (125 : UInt8) ∉ b) : fl (123 :: (b ++ 125 :: r)) = 123 :: (b ++ 125 :: fl r) := by
  have hp : ∀ a ∈ b, nb a = true := fun a ha => by
    simp only [nb, bne_iff_ne, ne_eq]
    exact fun e => h (e ▸ ha)
  have hd : (b ++ 125 :: r).dropWhile nb = 125 :: r := by
    rw [List.dropWhile_append_of_pos hp]
    simp [List.dropWhile, nb]
  have ht : (b ++ 125 :: r).takeWhile nb = b := by
    rw [List.takeWhile_append_of_pos hp]
    simp [List.takeWhile, nb]
  rw [fl_cons, if_pos rfl]
  split
  · rename_i hr
    rw [hd] at hr
    cases hr
  · rename_i d r' hr
    rw [hd] at hr
    cases hr
    rw [ht]
theorem rotB_open : rotB 123 = 123 := rotB_of _ _ (by decide)
theorem fl_ahead : ∀ (a t : List UInt8), (123 : UInt8) ∉ a → fl (a ++ t) = rotL a ++ fl t
  | [], t, _ => rfl
  | c :: a, t, h => by
    rw [List.cons_append, fl_plain _ (fun e => h (e ▸ List.mem_cons_self ..)), fl_ahead a t (fun e => h (List.mem_cons_of_mem _ e))]
    rfl
theorem fl_none : ∀ (l : List UInt8), (125 : UInt8) ∉ l → fl l = rotL l
  | [], _ => rfl
  | c :: l, h => by
    have ih := fl_none l (fun e => h (List.mem_cons_of_mem _ e))
    by_cases hc : c = 123
    · subst hc
      rw [fl_lone (fun e => h (List.mem_cons_of_mem _ e)), ih]
      show _ = rotB 123 :: rotL l
      rw [rotB_open]
    · rw [fl_plain _ hc, ih]
      rfl
theorem fl_found {a b r : List UInt8} (ha : (123 : UInt8) ∉ a) (hb : (125 : UInt8) ∉ b) : fl (a ++ 123 :: (b ++ 125 :: r)) = rotL a ++ 123 :: (b ++ 125 :: fl r) := by
  rw [fl_ahead _ _ ha, fl_open hb]
theorem fl_miss1 {l : List UInt8} (h : (123 : UInt8) ∉ l) : fl l = rotL l := by
  have := fl_ahead l [] h
  rw [List.append_nil, fl_nil, List.append_nil] at this
  exact this
theorem fl_miss2 {a t : List UInt8} (ha : (123 : UInt8) ∉ a) (ht : (125 : UInt8) ∉ t) : fl (a ++ 123 :: t) = rotL (a ++ 123 :: t) := by
  rw [fl_ahead _ _ ha, fl_lone ht, fl_none t ht]
  unfold rotL
  rw [List.map_append, List.map_cons, rotB_open]
theorem index_way (c : UInt8) : ∀ l : List UInt8, (c ∉ l ∧ Lib.indexByte l c = -1) ∨ ∃ a t, l = a ++ c :: t ∧ c ∉ a ∧ Lib.indexByte l c = (a.length : Int)
  | [] => .inl ⟨by simp, rfl⟩
  | x :: l => by
    by_cases h : x = c
    · subst h
      exact .inr ⟨[], l, rfl, by simp, by simp [Lib.indexByte]⟩
    · rcases index_way c l with ⟨h1, h2⟩ | ⟨a, t, rfl, h1, h2⟩
      · exact .inl ⟨by simp [h1, Ne.symm h], by simp [Lib.indexByte, h, h2]⟩
      · refine .inr ⟨x :: a, t, rfl, by simp [h1, Ne.symm h], ?_⟩
        simp [Lib.indexByte, h, h2]
theorem cut_way (c : UInt8) (l : List UInt8) : (c ∉ l ∧ Lib.cut l [c] = (l, [], false)) ∨ ∃ a t, l = a ++ c :: t ∧ c ∉ a ∧ Lib.cut l [c] = (a, t, true) := by
  rcases index_way c l with ⟨h1, h2⟩ | ⟨a, t, rfl, h1, h2⟩
  · refine .inl ⟨h1, ?_⟩
    unfold Lib.cut
    rw [Lib.index_one, h2, if_neg (by omega)]
  · refine .inr ⟨a, t, rfl, h1, ?_⟩
    unfold Lib.cut
    rw [Lib.index_one, h2, if_pos (by omega)]
    simp

end Go.Proofs.YtgbgnmjgnfocmaaDoor
