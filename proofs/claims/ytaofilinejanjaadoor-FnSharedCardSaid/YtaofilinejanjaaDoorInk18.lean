/-
  Only blanks and ends of lines are lost; free of the program.
-/
import Derived.Test.YtaofilinejanjaaDoorWrapP18
namespace Go.Proofs.YtaofilinejanjaaDoor
open Go.ChangeShapes Go.WideShapes Go.ChangeAt Go.RowKit

set_option maxRecDepth 100000
set_option linter.unusedVariables false

/-- What is neither a blank nor an end of a line. -/
def inkB (b : UInt8) : Bool := b != 32 && b != 10
def ink (t : ByteArray) : List UInt8 := t.data.toList.filter inkB
theorem ext_list (t : ByteArray) (a b : Nat) : (t.extract a b).data.toList = (t.data.toList.drop a).take (b - a) := by rw [Lib.extract_data]
theorem ink_cut (t : ByteArray) (a b c : Nat) (h1 : a ≤ b) (h2 : b ≤ c) : ink (t.extract a b) ++ ink (t.extract b c) = ink (t.extract a c) := by
  unfold ink
  rw [ext_list, ext_list, ext_list, ← List.filter_append]
  congr 1
  have e : t.data.toList.drop b = (t.data.toList.drop a).drop (b - a) := by rw [List.drop_drop]; congr 1; omega
  rw [e, ← List.take_add]
  congr 1
  omega
theorem ink_nil {t : ByteArray} (h : ∀ j, j < t.size → byt t j = 32 ∨ byt t j = 10) : ink t = [] := by
  unfold ink
  rw [List.filter_eq_nil_iff]
  intro b hb
  obtain ⟨j, hj⟩ := List.mem_iff_getElem?.1 hb
  have hjl : j < t.size := by rw [Lib.size_eq]; exact (List.getElem?_eq_some_iff.1 hj).1
  rw [byt_get t j hjl] at hj
  cases hj
  rcases h j hjl with h | h
  · rw [(byt_is t j 32).1 h]; decide
  · rw [(byt_is t j 10).1 h]; decide
theorem ext_whole (t : ByteArray) : t.extract 0 t.size = t := by
  rw [Lib.extract_upto, List.take_of_length_le (by rw [← Lib.size_eq]; exact Nat.le_refl _)]
theorem byt_mid (t : ByteArray) (a b j : Nat) (h : a + j < b) (hb : b ≤ t.size) : byt (t.extract a b) j = byt t (a + j) := by
  have h' : j < (t.extract a b).size := by rw [ByteArray.size_extract]; omega
  have := ByteArray.getElem_extract (b := t) (start := a) (stop := b) h'
  rw [byt_ix _ j h', byt_ix t (a + j) (by omega), this]
theorem ink_trimL (t : ByteArray) : ink (trimL t) = ink t := by
  obtain ⟨k, hk⟩ := lead_is t
  have h := ink_cut t 0 k t.size (by omega) hk.1
  rw [ext_whole, ink_nil (t := t.extract 0 k) (fun j hj => by
    rw [ByteArray.size_extract] at hj
    rw [byt_take t k j (by omega) hk.1]
    exact .inl (hk.2.1 j (by omega)))] at h
  rw [trimL_eq hk, ← h]
  rfl
theorem ink_trimR (t : ByteArray) : ink (trimR t) = ink t := by
  obtain ⟨k, hk⟩ := tail_is t
  have h := ink_cut t 0 k t.size (by omega) hk.1
  rw [ext_whole, ink_nil (t := t.extract k t.size) (fun j hj => by
    rw [ByteArray.size_extract] at hj
    rw [byt_ext]
    exact .inl (hk.2.1 (k + j) (by omega) (by omega)))] at h
  rw [trimR_eq hk, ← h, List.append_nil]
theorem ink_cutF (t : ByteArray) (wide : Int) : ∀ (f p : Nat) (many bl : Int), (bl < 0 ∨ ∃ q : Nat, bl = (q : Int) ∧ q < t.size) → ink (cutF t wide f p many bl).1 ++ ink (cutF t wide f p many bl).2 = ink t
  | 0, p, many, bl, _ => by simp [cutF, ink]
  | f + 1, p, many, bl, h2 => by
    by_cases h : p < t.size
    · obtain ⟨bl', hb⟩ : ∃ b, (if byt t p = 32 then (p : Int) else bl) = b := ⟨_, rfl⟩
      have h2' : bl' < 0 ∨ ∃ q : Nat, bl' = (q : Int) ∧ q < t.size := by
        by_cases hq : byt t p = 32
        · rw [if_pos hq] at hb
          exact .inr ⟨p, hb.symm, h⟩
        · rw [if_neg hq] at hb
          rw [← hb]
          exact h2
      by_cases hm : many < wide
      · rw [cutF_go t wide f p many bl bl' h hm hb]
        exact ink_cutF t wide f _ _ _ h2'
      · by_cases hb0 : bl' < 0
        · rw [cutF_cut t wide f p many bl bl' h hm hb hb0]
          have := ink_cut t 0 p t.size (by omega) (by omega)
          rw [ext_whole] at this
          exact this
        · rw [cutF_blank t wide f p many bl bl' h hm hb hb0]
          obtain ⟨q, rfl, hq⟩ : ∃ q : Nat, bl' = (q : Int) ∧ q < t.size := h2'.resolve_left hb0
          have := ink_cut t 0 q t.size (by omega) (by omega)
          rw [ext_whole] at this
          simp only [Int.toNat_natCast]
          rw [ink_trimR, ink_trimL]
          exact this
    · rw [cutF_end t wide (f + 1) p many bl h]
      simp [ink]
theorem ink_row (wide : Int) (hw : 1 ≤ wide) : ∀ (f : Nat) (t : ByteArray), t.size < f → (rowF wide f t).flatMap ink = ink t
  | 0, t, h => by omega
  | f + 1, t, h => by
    have hc : ink (cutA t wide).1 ++ ink (cutA t wide).2 = ink t := ink_cutF t wide _ 0 0 (-1) (.inl (by omega))
    unfold rowF
    rw [List.flatMap_cons]
    split
    · rename_i h0
      have e : ink (cutA t wide).2 = [] := ink_nil (fun j hj => by omega)
      rw [e, List.append_nil] at hc
      simpa using hc
    · rename_i h0
      have hl := (cutA_less t wide hw).resolve_left h0
      rw [ink_row wide hw f _ (by omega)]
      exact hc
theorem ink_spl (s : ByteArray) : ∀ (b fr i : Nat), b + i = s.size → fr ≤ i → (splF s b fr i).flatMap ink = ink (s.extract fr s.size)
  | 0, fr, i, _, _ => by simp [splF]
  | b + 1, fr, i, h, hf => by
    unfold splF
    split
    · rename_i hb
      rw [List.flatMap_cons, ink_spl s b (i + 1) (i + 1) (by omega) (Nat.le_refl _)]
      have h1 := ink_cut s fr i s.size hf (by omega)
      have h2 := ink_cut s i (i + 1) s.size (by omega) (by omega)
      rw [ink_nil (t := s.extract i (i + 1)) (fun j hj => by
        rw [ByteArray.size_extract] at hj
        rw [byt_mid s i (i + 1) j (by omega) (by omega), show i + j = i by omega]
        exact .inr hb)] at h2
      rw [← h1, ← h2]
      rfl
    · exact ink_spl s b fr (i + 1) (by omega) (by omega)
/-- Only blanks and ends of lines are lost. -/
theorem ink_rows (wide : Int) (hw : 1 ≤ wide) : ∀ l : List ByteArray, (rowsA wide l).flatMap ink = l.flatMap ink
  | [] => rfl
  | t :: l => by
    have := ink_rows wide hw l
    unfold rowsA at *
    rw [List.flatMap_cons, List.flatMap_append, List.flatMap_cons, this, ink_row wide hw _ t (by omega)]
theorem ink_wrap {s : ByteArray} {wide : Int} (h : WrapOk s wide) : (wrapA s wide).1.flatMap ink = ink s := by
  rw [wrapA_yes h]
  dsimp only
  rw [ink_rows wide h.2.1, ink_spl s s.size 0 0 (by omega) (by omega), ext_whole]

end Go.Proofs.YtaofilinejanjaaDoor
