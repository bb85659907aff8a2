/-
  Texts broken into lines; free of the program.
-/
import Derived.Test.YtaofilinejanjaaDoorRunQ18
import Derived.Lib.Split
import Derived.Lib.CountLaws
import Derived.Lib.TrimByte
namespace Go.Proofs.YtaofilinejanjaaDoor
open Go.ChangeShapes Go.WideShapes Go.ChangeAt Go.RowKit

set_option maxRecDepth 100000
set_option linter.unusedVariables false

theorem byt_get (s : ByteArray) (j : Nat) (h : j < s.size) : s.data.toList[j]? = some (s.get! j) := by
  rw [get_bang s j h]
  have h' : j < s.data.toList.length := by rw [← Lib.size_eq]; exact h
  rw [List.getElem?_eq_getElem h']
  rfl
theorem byt_is (s : ByteArray) (j : Nat) (c : UInt8) : byt s j = (c.toNat : Int) ↔ s.get! j = c := by
  unfold byt
  constructor
  · intro h
    exact UInt8.toNat_inj.1 (by omega)
  · intro h
    rw [h]
/-- How many blanks stand in front; where the blanks at the end begin. -/
def IsLead (t : ByteArray) (k : Nat) : Prop := k ≤ t.size ∧ (∀ j, j < k → byt t j = 32) ∧ (k < t.size → byt t k ≠ 32)
def IsTail (t : ByteArray) (k : Nat) : Prop := k ≤ t.size ∧ (∀ j, k ≤ j → j < t.size → byt t j = 32) ∧ (0 < k → byt t (k - 1) ≠ 32)
def trimL (t : ByteArray) : ByteArray := ⟨(Lib.trimLeftB t.data.toList 32).toArray⟩
def trimR (t : ByteArray) : ByteArray := ⟨(Lib.trimRightB t.data.toList 32).toArray⟩
theorem trimL_eq {t : ByteArray} {k : Nat} (h : IsLead t k) : trimL t = t.extract k t.size := by
  unfold trimL
  rw [Lib.extract_from, Lib.trimLeftB_drop t.data.toList 32 k (by rw [← Lib.size_eq]; exact h.1)]
  · intro j b hj hb
    rw [byt_get t j (by have := h.1; omega)] at hb
    cases hb
    exact (byt_is t j 32).1 (h.2.1 j hj)
  · intro b hb e
    subst e
    have hk : k < t.size := by rw [Lib.size_eq]; exact (List.getElem?_eq_some_iff.1 hb).1
    rw [byt_get t k hk] at hb
    exact h.2.2 hk ((byt_is t k 32).2 (Option.some.inj hb))
theorem trimR_eq {t : ByteArray} {k : Nat} (h : IsTail t k) : trimR t = t.extract 0 k := by
  unfold trimR
  rw [Lib.extract_upto, Lib.trimRightB_take t.data.toList 32 k (by rw [← Lib.size_eq]; exact h.1)]
  · intro j b hj hb
    have hk : j < t.size := by rw [Lib.size_eq]; exact (List.getElem?_eq_some_iff.1 hb).1
    rw [byt_get t j hk] at hb
    cases hb
    exact (byt_is t j 32).1 (h.2.1 j hj hk)
  · intro b hk0 hb e
    subst e
    have hk : k - 1 < t.size := by have := h.1; omega
    rw [byt_get t (k - 1) hk] at hb
    exact h.2.2 hk0 ((byt_is t (k - 1) 32).2 (Option.some.inj hb))
theorem lead_is (t : ByteArray) : ∃ k, IsLead t k := by
  have h : ∀ n i, i + n = t.size → (∀ j, j < i → byt t j = 32) → ∃ k, IsLead t k := fun n => by
    induction n with
    | zero => intro i hi hj; exact ⟨i, by omega, hj, fun h => by omega⟩
    | succ n ih =>
      intro i hi hj
      by_cases hb : byt t i = 32
      · exact ih (i + 1) (by omega) (fun j h => by
          by_cases e : j = i
          · subst e; exact hb
          · exact hj j (by omega))
      · exact ⟨i, by omega, hj, fun _ => hb⟩
  exact h t.size 0 (by omega) (fun j hj => by omega)
theorem tail_is (t : ByteArray) : ∃ k, IsTail t k := by
  have h : ∀ i, i ≤ t.size → (∀ j, i ≤ j → j < t.size → byt t j = 32) → ∃ k, IsTail t k := fun i => by
    induction i with
    | zero => intro hi hj; exact ⟨0, by omega, hj, fun h => by omega⟩
    | succ i ih =>
      intro hi hj
      by_cases hb : byt t i = 32
      · exact ih (by omega) (fun j h h2 => by
          by_cases e : j = i
          · subst e; exact hb
          · exact hj j (by omega) h2)
      · exact ⟨i + 1, hi, hj, fun _ => hb⟩
  exact h t.size (Nat.le_refl _) (fun j h1 h2 => by omega)
theorem byt_ext (s : ByteArray) (i k : Nat) : byt (s.extract i s.size) k = byt s (i + k) := by unfold byt; rw [ext_get]
theorem byt_take (s : ByteArray) (n k : Nat) (h : k < n) (hn : n ≤ s.size) : byt (s.extract 0 n) k = byt s k := by
  have h' : k < (s.extract 0 n).size := by rw [ByteArray.size_extract]; omega
  have := ByteArray.getElem_extract (b := s) (start := 0) (stop := n) h'
  rw [byt_ix _ k h', byt_ix s k (by omega), this]
  simp only [Nat.zero_add]
/-- The line that is cut off a text, and what is left. -/
def cutF (t : ByteArray) (wide : Int) : Nat → Nat → Int → Int → ByteArray × ByteArray
  | 0, _, _, _ => (t, ByteArray.empty)
  | f + 1, p, many, bl => if p < t.size then
      (if many < wide then cutF t wide f (p + (runM t p).2) (many + 1) (if byt t p = 32 then (p : Int) else bl)
       else if (if byt t p = 32 then (p : Int) else bl) < 0 then (t.extract 0 p, t.extract p t.size)
       else (trimR (t.extract 0 (if byt t p = 32 then (p : Int) else bl).toNat), trimL (t.extract (if byt t p = 32 then (p : Int) else bl).toNat t.size)))
    else (t, ByteArray.empty)
def cutA (t : ByteArray) (wide : Int) : ByteArray × ByteArray := cutF t wide (t.size + 1) 0 0 (-1)
theorem cutF_end (t : ByteArray) (wide : Int) (f p : Nat) (many bl : Int) (h : ¬ p < t.size) : cutF t wide f p many bl = (t, ByteArray.empty) := by
  cases f with
  | zero => rfl
  | succ f => unfold cutF; rw [if_neg h]
theorem cutF_go (t : ByteArray) (wide : Int) (f p : Nat) (many bl bl' : Int) (h : p < t.size) (hm : many < wide) (hb : (if byt t p = 32 then (p : Int) else bl) = bl') : cutF t wide (f + 1) p many bl = cutF t wide f (p + (runM t p).2) (many + 1) bl' := by
  conv => lhs; unfold cutF
  rw [if_pos h, if_pos hm, hb]
theorem cutF_cut (t : ByteArray) (wide : Int) (f p : Nat) (many bl bl' : Int) (h : p < t.size) (hm : ¬ many < wide) (hb : (if byt t p = 32 then (p : Int) else bl) = bl') (hb0 : bl' < 0) : cutF t wide (f + 1) p many bl = (t.extract 0 p, t.extract p t.size) := by
  unfold cutF; rw [if_pos h, if_neg hm, hb, if_pos hb0]
theorem cutF_blank (t : ByteArray) (wide : Int) (f p : Nat) (many bl bl' : Int) (h : p < t.size) (hm : ¬ many < wide) (hb : (if byt t p = 32 then (p : Int) else bl) = bl') (hb0 : ¬ bl' < 0) : cutF t wide (f + 1) p many bl = (trimR (t.extract 0 bl'.toNat), trimL (t.extract bl'.toNat t.size)) := by
  unfold cutF; rw [if_pos h, if_neg hm, hb, if_neg hb0]
theorem trimL_size (t : ByteArray) : (trimL t).size ≤ t.size := by
  obtain ⟨k, hk⟩ := lead_is t
  rw [trimL_eq hk, ByteArray.size_extract]
  omega
theorem trimL_less (t : ByteArray) (h : 0 < t.size) (hb : byt t 0 = 32) : (trimL t).size < t.size := by
  obtain ⟨k, hk⟩ := lead_is t
  rw [trimL_eq hk, ByteArray.size_extract]
  have : k ≠ 0 := fun e => by
    subst e
    exact hk.2.2 h hb
  omega
/-- What is left is shorter. -/
theorem cutF_less (t : ByteArray) (wide : Int) (hw : 1 ≤ wide) : ∀ (f p : Nat) (many bl : Int), (0 < p ∨ many < wide) → (bl < 0 ∨ ∃ q : Nat, bl = (q : Int) ∧ q < t.size ∧ byt t q = 32) → (cutF t wide f p many bl).2.size = 0 ∨ (cutF t wide f p many bl).2.size < t.size
  | 0, p, many, bl, _, _ => .inl (by simp [cutF])
  | f + 1, p, many, bl, h1, h2 => by
    by_cases h : p < t.size
    · obtain ⟨bl', hb⟩ : ∃ b, (if byt t p = 32 then (p : Int) else bl) = b := ⟨_, rfl⟩
      have h2' : bl' < 0 ∨ ∃ q : Nat, bl' = (q : Int) ∧ q < t.size ∧ byt t q = 32 := by
        by_cases hq : byt t p = 32
        · rw [if_pos hq] at hb
          exact .inr ⟨p, hb.symm, h, hq⟩
        · rw [if_neg hq] at hb
          rw [← hb]
          exact h2
      by_cases hm : many < wide
      · rw [cutF_go t wide f p many bl bl' h hm hb]
        exact cutF_less t wide hw f _ _ _ (.inl (by have := wid_pos t p h; omega)) h2'
      · by_cases hb0 : bl' < 0
        · rw [cutF_cut t wide f p many bl bl' h hm hb hb0]
          right
          clear h2 h2'
          rw [ByteArray.size_extract]
          omega
        · rw [cutF_blank t wide f p many bl bl' h hm hb hb0]
          right
          obtain ⟨q, rfl, hq, hqb⟩ : ∃ q : Nat, bl' = (q : Int) ∧ q < t.size ∧ byt t q = 32 := h2'.resolve_left hb0
          have h3 : 0 < (t.extract q t.size).size := by rw [ByteArray.size_extract]; omega
          have := trimL_less (t.extract q t.size) h3 (by rw [byt_ext]; simpa using hqb)
          have h4 : (t.extract q t.size).size ≤ t.size := by rw [ByteArray.size_extract]; omega
          simp only [Int.toNat_natCast]
          omega
    · rw [cutF_end t wide (f + 1) p many bl h]
      exact .inl (by simp)
theorem cutA_less (t : ByteArray) (wide : Int) (hw : 1 ≤ wide) : (cutA t wide).2.size = 0 ∨ (cutA t wide).2.size < t.size := cutF_less t wide hw _ 0 0 (-1) (.inr (by omega)) (.inl (by omega))
/-- The lines of one row. -/
def rowF (wide : Int) : Nat → ByteArray → List ByteArray
  | 0, _ => []
  | f + 1, t => (cutA t wide).1 :: (if (cutA t wide).2.size = 0 then [] else rowF wide f (cutA t wide).2)
theorem rowF_len (wide : Int) : ∀ (f : Nat) (t : ByteArray), (rowF wide f t).length ≤ f
  | 0, _ => by simp [rowF]
  | f + 1, t => by
    unfold rowF
    split
    · simp
    · have := rowF_len wide f (cutA t wide).2
      simp
      omega
/-- A text's rows: what stands between the bytes 10. -/
def splF (s : ByteArray) : Nat → Nat → Nat → List ByteArray
  | 0, fr, _ => [s.extract fr s.size]
  | b + 1, fr, i => if byt s i = 10 then s.extract fr i :: splF s b (i + 1) (i + 1) else splF s b fr (i + 1)
theorem splF_len (s : ByteArray) : ∀ b fr i, (splF s b fr i).length ≤ b + 1
  | 0, _, _ => by simp [splF]
  | b + 1, fr, i => by
    unfold splF
    split
    · have := splF_len s b (i + 1) (i + 1)
      simp
      omega
    · have := splF_len s b fr (i + 1)
      omega
theorem splF_sz (s : ByteArray) : ∀ b fr i, ∀ t ∈ splF s b fr i, t.size ≤ s.size
  | 0, fr, _, t, h => by
    simp [splF] at h
    rw [h, ByteArray.size_extract]
    omega
  | b + 1, fr, i, t, h => by
    unfold splF at h
    split at h
    · rcases List.mem_cons.1 h with h | h
      · rw [h, ByteArray.size_extract]
        omega
      · exact splF_sz s b _ _ t h
    · exact splF_sz s b _ _ t h
theorem splF_none (s : ByteArray) : ∀ b fr i, (∀ j, i ≤ j → j < i + b → byt s j ≠ 10) → splF s b fr i = [s.extract fr s.size]
  | 0, _, _, _ => rfl
  | b + 1, fr, i, h => by
    unfold splF
    rw [if_neg (h i (by omega) (by omega))]
    exact splF_none s b fr (i + 1) (fun j h1 h2 => h j (by omega) (by omega))
theorem splF_first (s : ByteArray) (c : Nat) : ∀ p fr i, (∀ j, i ≤ j → j < i + p → byt s j ≠ 10) → byt s (i + p) = 10 → splF s (p + 1 + c) fr i = s.extract fr (i + p) :: splF s c (i + p + 1) (i + p + 1)
  | 0, fr, i, _, h => by
    rw [show 0 + 1 + c = c + 1 by omega]
    conv => lhs; unfold splF
    rw [if_pos (by simpa using h)]
    rfl
  | p + 1, fr, i, hn, h => by
    rw [show p + 1 + 1 + c = (p + 1 + c) + 1 by omega]
    conv => lhs; unfold splF
    rw [if_neg (hn i (by omega) (by omega)), splF_first s c p fr (i + 1) (fun j h1 h2 => hn j (by omega) (by omega)) (by rw [show i + 1 + p = i + (p + 1) by omega]; exact h)]
    rw [show i + 1 + p = i + (p + 1) by omega]
theorem splF_shift (s : ByteArray) (a : Nat) (ha : a ≤ s.size) : ∀ b fr i, b + i = s.size - a → splF (s.extract a s.size) b fr i = splF s b (a + fr) (a + i)
  | 0, fr, i, h => by
    unfold splF
    rw [ByteArray.extract_extract, ByteArray.size_extract]
    congr 2
    omega
  | b + 1, fr, i, h => by
    unfold splF
    rw [byt_ext, ByteArray.extract_extract, splF_shift s a ha b (i + 1) (i + 1) (by omega), splF_shift s a ha b fr (i + 1) (by omega), show min (a + i) s.size = a + i by omega]
    rfl
theorem nl_occ (s : ByteArray) (j : Nat) (h : j < s.size) : Lib.occAt s.data.toList [10] j = true ↔ byt s j = 10 := by
  have h' : j < s.data.toList.length := by rw [← Lib.size_eq]; exact h
  unfold Lib.occAt
  have e := byt_get s j h
  rw [List.getElem?_eq_getElem h'] at e
  rw [List.drop_eq_getElem_cons h', Option.some.inj e, show byt s j = 10 ↔ s.get! j = 10 from byt_is s j 10]
  simp [List.isPrefixOf]
  exact eq_comm
theorem spl_lib : ∀ (n : Nat) (s : ByteArray), s.size = n → Lib.splitB ⟨#[10]⟩ 0 (Lib.countB s ⟨#[10]⟩) s = splF s s.size 0 0 ∧ (Lib.splitB ⟨#[10]⟩ 0 (Lib.countB s ⟨#[10]⟩) s).length = Lib.countB s ⟨#[10]⟩ + 1 := by
  intro n
  induction n using Nat.strongRecOn with
  | _ n ih =>
    intro s hn
    have key : (∀ j, j < s.size → byt s j ≠ 10) ∨ ∃ m, m < s.size ∧ byt s m = 10 ∧ ∀ j, j < m → byt s j ≠ 10 := by
      have h : ∀ k, k ≤ s.size → (∀ j, j < k → byt s j ≠ 10) ∨ ∃ m, m < s.size ∧ byt s m = 10 ∧ ∀ j, j < m → byt s j ≠ 10 := fun k => by
        induction k with
        | zero => intro _; exact .inl (fun j hj => by omega)
        | succ k ih =>
          intro hk
          rcases ih (by omega) with h | h
          · by_cases hb : byt s k = 10
            · exact .inr ⟨k, by omega, hb, h⟩
            · exact .inl (fun j hj => by
                by_cases e : j = k
                · subst e; exact hb
                · exact h j (by omega))
          · exact .inr h
      exact h s.size (Nat.le_refl _)
    rcases key with h | ⟨m, hm, hb, hf⟩
    · have hi : Lib.indexB s ⟨#[10]⟩ = -1 := Lib.index_none (fun j hj => by
        by_cases e : j < s.size
        · have := h j e
          cases hh : Lib.occAt s.data.toList [10] j with
          | false => rfl
          | true => exact absurd ((nl_occ s j e).1 hh) this
        · have : s.data.toList.drop j = [] := List.drop_eq_nil_of_le (by rw [← Lib.size_eq]; omega)
          show ([10] : List UInt8).isPrefixOf (s.data.toList.drop j) = false
          rw [this]
          rfl)
      rw [Lib.countB_miss _ _ hi, Lib.splitB_zero, splF_none s s.size 0 0 (fun j _ hj => h j (by omega))]
      refine ⟨?_, rfl⟩
      rw [Lib.extract_upto, List.take_of_length_le (by rw [← Lib.size_eq]; exact Nat.le_refl _)]
    · have hi : Lib.indexB s ⟨#[10]⟩ = (m : Int) := Lib.index_first (by rw [← Lib.size_eq]; omega) ((nl_occ s m hm).2 hb) (fun j hj => by
        cases hh : Lib.occAt s.data.toList [10] j with
        | false => rfl
        | true => exact absurd ((nl_occ s j (by omega)).1 hh) (hf j hj))
      have hz : (ByteArray.mk #[10]).size = 1 := rfl
      rw [Lib.countB_hit s ⟨#[10]⟩ m (by rw [hz]; omega) hi, Nat.add_comm 1, Lib.splitB_hit _ _ _ _ m hi, hz]
      have hs : (s.extract (m + 1) s.size).size = s.size - (m + 1) := by rw [ByteArray.size_extract]; omega
      obtain ⟨h1, h2⟩ := ih (s.size - (m + 1)) (by omega) (s.extract (m + 1) s.size) hs
      refine ⟨?_, by rw [List.length_cons, h2]⟩
      rw [h1, hs, splF_shift s (m + 1) (by omega) _ 0 0 (by omega)]
      have hsz : splF s s.size 0 0 = splF s (m + 1 + (s.size - (m + 1))) 0 0 := by rw [show m + 1 + (s.size - (m + 1)) = s.size by omega]
      rw [hsz, splF_first s (s.size - (m + 1)) m 0 0 (fun j _ h2 => hf j (by omega)) (by simpa using hb)]
      simp
/-- All lines. -/
def rowsA (wide : Int) (l : List ByteArray) : List ByteArray := l.flatMap fun t => rowF wide (t.size + 1) t
theorem rowsA_snoc (wide : Int) (l : List ByteArray) (t : ByteArray) : rowsA wide (l ++ [t]) = rowsA wide l ++ rowF wide (t.size + 1) t := by simp [rowsA]
theorem rowsA_len (wide : Int) (n : Nat) : ∀ l : List ByteArray, (∀ t ∈ l, t.size ≤ n) → (rowsA wide l).length ≤ l.length * (n + 1)
  | [], _ => by simp [rowsA]
  | t :: l, h => by
    have h1 := rowsA_len wide n l (fun t ht => h t (List.mem_cons_of_mem _ ht))
    have h2 := rowF_len wide (t.size + 1) t
    have h3 := h t (List.mem_cons_self ..)
    unfold rowsA at *
    rw [List.flatMap_cons, List.length_append, List.length_cons, Nat.succ_mul]
    omega
def WrapOk (s : ByteArray) (wide : Int) : Prop := s.size ≤ 400 ∧ 1 ≤ wide ∧ wide ≤ 100
noncomputable def wrapA (s : ByteArray) (wide : Int) : List ByteArray × Bool := if dec (WrapOk s wide) then (rowsA wide (splF s s.size 0 0), true) else ([], false)
theorem wrapA_no {s : ByteArray} {wide : Int} (h : ¬ WrapOk s wide) : wrapA s wide = ([], false) := by unfold wrapA; rw [dec_no h]; rfl
theorem wrapA_yes {s : ByteArray} {wide : Int} (h : WrapOk s wide) : wrapA s wide = (rowsA wide (splF s s.size 0 0), true) := by unfold wrapA; rw [dec_yes h]; rfl
theorem wrap_bd {s : ByteArray} {wide : Int} (h : s.size ≤ 400) : (rowsA wide (splF s s.size 0 0)).length ≤ 160801 := by
  have h1 := rowsA_len wide 400 (splF s s.size 0 0) (fun t ht => by have := splF_sz s _ _ _ t ht; omega)
  have h2 := splF_len s s.size 0 0
  have h3 : (splF s s.size 0 0).length * 401 ≤ 401 * 401 := Nat.mul_le_mul_right _ (by omega)
  omega
theorem wrapA_len (s : ByteArray) (wide : Int) : (wrapA s wide).1.length ≤ 160801 := by
  rcases Classical.em (WrapOk s wide) with h | h
  · rw [wrapA_yes h]; exact wrap_bd h.1
  · rw [wrapA_no h]; simp
theorem run_blank (t : ByteArray) (p : Nat) (h : p < t.size) : ((runM t p).1 : Int) = 32 ↔ byt t p = 32 := by
  rw [byt_ix t p h]
  by_cases ha : (t[p]'h).toNat < 128
  · unfold runM; rw [decode_ascii t p h ha]
  · have := (decode_high t p h (by omega)).1
    unfold runM
    omega

end Go.Proofs.YtaofilinejanjaaDoor
