/-
  How many runes a line has; free of the program.
-/
import Derived.Test.YtaofilinejanjaaDoorInk18
namespace Go.Proofs.YtaofilinejanjaaDoor
open Go.ChangeShapes Go.WideShapes Go.ChangeAt Go.RowKit

set_option maxRecDepth 100000
set_option linter.unusedVariables false
theorem pre2 (s : ByteArray) (m : Nat) (h1 : 1 ≤ m) (hm : m ≤ s.size) (hr : 194 ≤ byt s 0 ∧ byt s 0 ≤ 223) (hw : (runM s 0).2 ≤ m) : runM (s.extract 0 m) 0 = runM s 0 := by
  have hz : (s.extract 0 m).size = m := by rw [ByteArray.size_extract]; omega
  have b0 : byt (s.extract 0 m) 0 = byt s 0 := byt_take s m 0 (by omega) hm
  have b1 : 1 < m → byt (s.extract 0 m) 1 = byt s 1 := fun h => byt_take s m 1 h hm
  have hr' : 194 ≤ byt (s.extract 0 m) 0 ∧ byt (s.extract 0 m) 0 ≤ 223 := by rw [b0]; exact hr
  by_cases hs : s.size < 2
  · rw [run2_short hr hs, run2_short hr' (by omega)]
  by_cases c1 : 128 ≤ byt s 1 ∧ byt s 1 ≤ 191
  case neg =>
    have hn : byt s 1 < 128 ∨ 191 < byt s 1 := by omega
    rw [run2_c1 hr hn]
    by_cases hm2 : m < 2
    · rw [run2_short hr' (by omega)]
    · rw [run2_c1 hr' (by rw [b1 (by omega)]; exact hn)]
  rw [run2_ok hr (by omega) c1] at hw ⊢
  dsimp only at hw
  rw [run2_ok hr' (by omega) (by rw [b1 (by omega)]; exact c1), b0, b1 (by omega)]
theorem pre3 (s : ByteArray) (m : Nat) (h1 : 1 ≤ m) (hm : m ≤ s.size) (hr : 224 ≤ byt s 0 ∧ byt s 0 ≤ 239) (hw : (runM s 0).2 ≤ m) : runM (s.extract 0 m) 0 = runM s 0 := by
  have hz : (s.extract 0 m).size = m := by rw [ByteArray.size_extract]; omega
  have b0 : byt (s.extract 0 m) 0 = byt s 0 := byt_take s m 0 (by omega) hm
  have b1 : 1 < m → byt (s.extract 0 m) 1 = byt s 1 := fun h => byt_take s m 1 h hm
  have b2 : 2 < m → byt (s.extract 0 m) 2 = byt s 2 := fun h => byt_take s m 2 h hm
  have hr' : 224 ≤ byt (s.extract 0 m) 0 ∧ byt (s.extract 0 m) 0 ≤ 239 := by rw [b0]; exact hr
  by_cases hs : s.size < 3
  · rw [run3_short hr hs, run3_short hr' (by omega)]
  by_cases c1 : 128 ≤ byt s 1 ∧ byt s 1 ≤ 191
  case neg =>
    have hn : byt s 1 < 128 ∨ 191 < byt s 1 := by omega
    rw [run3_c1 hr hn]
    by_cases hm2 : m < 3
    · rw [run3_short hr' (by omega)]
    · rw [run3_c1 hr' (by rw [b1 (by omega)]; exact hn)]
  by_cases c2 : 128 ≤ byt s 2 ∧ byt s 2 ≤ 191
  case neg =>
    have hn : byt s 2 < 128 ∨ 191 < byt s 2 := by omega
    rw [run3_c2 hr hn]
    by_cases hm2 : m < 3
    · rw [run3_short hr' (by omega)]
    · rw [run3_c2 hr' (by rw [b2 (by omega)]; exact hn)]
  by_cases l1 : ((byt s 0 - 224) * 64 + byt s 1 - 128) * 64 + byt s 2 - 128 < 2048
  · rw [run3_low hr c1 c2 l1]
    by_cases hm2 : m < 3
    · rw [run3_short hr' (by omega)]
    · rw [run3_low hr' (by rw [b1 (by omega)]; exact c1) (by rw [b2 (by omega)]; exact c2) (by rw [b0, b1 (by omega), b2 (by omega)]; exact l1)]
  by_cases l2 : 55296 ≤ ((byt s 0 - 224) * 64 + byt s 1 - 128) * 64 + byt s 2 - 128 ∧ ((byt s 0 - 224) * 64 + byt s 1 - 128) * 64 + byt s 2 - 128 ≤ 57343
  · rw [run3_sur hr c1 c2 l2]
    by_cases hm2 : m < 3
    · rw [run3_short hr' (by omega)]
    · rw [run3_sur hr' (by rw [b1 (by omega)]; exact c1) (by rw [b2 (by omega)]; exact c2) (by rw [b0, b1 (by omega), b2 (by omega)]; exact l2)]
  rw [run3_ok hr (by omega) c1 c2 l1 l2] at hw ⊢
  dsimp only at hw
  rw [run3_ok hr' (by omega) (by rw [b1 (by omega)]; exact c1) (by rw [b2 (by omega)]; exact c2) (by rw [b0, b1 (by omega), b2 (by omega)]; exact l1) (by rw [b0, b1 (by omega), b2 (by omega)]; exact l2), b0, b1 (by omega), b2 (by omega)]
theorem pre4 (s : ByteArray) (m : Nat) (h1 : 1 ≤ m) (hm : m ≤ s.size) (hr : 240 ≤ byt s 0 ∧ byt s 0 ≤ 244) (hw : (runM s 0).2 ≤ m) : runM (s.extract 0 m) 0 = runM s 0 := by
  have hz : (s.extract 0 m).size = m := by rw [ByteArray.size_extract]; omega
  have b0 : byt (s.extract 0 m) 0 = byt s 0 := byt_take s m 0 (by omega) hm
  have b1 : 1 < m → byt (s.extract 0 m) 1 = byt s 1 := fun h => byt_take s m 1 h hm
  have b2 : 2 < m → byt (s.extract 0 m) 2 = byt s 2 := fun h => byt_take s m 2 h hm
  have b3 : 3 < m → byt (s.extract 0 m) 3 = byt s 3 := fun h => byt_take s m 3 h hm
  have hr' : 240 ≤ byt (s.extract 0 m) 0 ∧ byt (s.extract 0 m) 0 ≤ 244 := by rw [b0]; exact hr
  by_cases hs : s.size < 4
  · rw [run4_short hr hs, run4_short hr' (by omega)]
  by_cases c1 : 128 ≤ byt s 1 ∧ byt s 1 ≤ 191
  case neg =>
    have hn : byt s 1 < 128 ∨ 191 < byt s 1 := by omega
    rw [run4_c1 hr hn]
    by_cases hm2 : m < 4
    · rw [run4_short hr' (by omega)]
    · rw [run4_c1 hr' (by rw [b1 (by omega)]; exact hn)]
  by_cases c2 : 128 ≤ byt s 2 ∧ byt s 2 ≤ 191
  case neg =>
    have hn : byt s 2 < 128 ∨ 191 < byt s 2 := by omega
    rw [run4_c2 hr hn]
    by_cases hm2 : m < 4
    · rw [run4_short hr' (by omega)]
    · rw [run4_c2 hr' (by rw [b2 (by omega)]; exact hn)]
  by_cases c3 : 128 ≤ byt s 3 ∧ byt s 3 ≤ 191
  case neg =>
    have hn : byt s 3 < 128 ∨ 191 < byt s 3 := by omega
    rw [run4_c3 hr hn]
    by_cases hm2 : m < 4
    · rw [run4_short hr' (by omega)]
    · rw [run4_c3 hr' (by rw [b3 (by omega)]; exact hn)]
  by_cases l1 : 65536 ≤ (((byt s 0 - 240) * 64 + byt s 1 - 128) * 64 + byt s 2 - 128) * 64 + byt s 3 - 128 ∧ (((byt s 0 - 240) * 64 + byt s 1 - 128) * 64 + byt s 2 - 128) * 64 + byt s 3 - 128 ≤ 1114111
  case neg =>
    rw [run4_out hr c1 c2 c3 l1]
    by_cases hm2 : m < 4
    · rw [run4_short hr' (by omega)]
    · rw [run4_out hr' (by rw [b1 (by omega)]; exact c1) (by rw [b2 (by omega)]; exact c2) (by rw [b3 (by omega)]; exact c3) (by rw [b0, b1 (by omega), b2 (by omega), b3 (by omega)]; exact l1)]
  rw [run4_ok hr (by omega) c1 c2 c3 l1] at hw ⊢
  dsimp only at hw
  rw [run4_ok hr' (by omega) (by rw [b1 (by omega)]; exact c1) (by rw [b2 (by omega)]; exact c2) (by rw [b3 (by omega)]; exact c3) (by rw [b0, b1 (by omega), b2 (by omega), b3 (by omega)]; exact l1), b0, b1 (by omega), b2 (by omega), b3 (by omega)]

theorem run_pre0 (s : ByteArray) (m : Nat) (h1 : 1 ≤ m) (hm : m ≤ s.size) (hw : (runM s 0).2 ≤ m) : runM (s.extract 0 m) 0 = runM s 0 := by
  have b0 : byt (s.extract 0 m) 0 = byt s 0 := byt_take s m 0 (by omega) hm
  have bd := byt_bd s 0
  by_cases r0 : byt s 0 < 128
  · rw [run_ascii r0, run_ascii (by rw [b0]; exact r0), b0]
  by_cases r1 : byt s 0 ≤ 193
  · rw [run_none (.inl ⟨by omega, r1⟩), run_none (.inl ⟨by rw [b0]; omega, by rw [b0]; exact r1⟩)]
  by_cases r2 : byt s 0 ≤ 223
  · exact pre2 s m h1 hm ⟨by omega, r2⟩ hw
  by_cases r3 : byt s 0 ≤ 239
  · exact pre3 s m h1 hm ⟨by omega, r3⟩ hw
  by_cases r4 : byt s 0 ≤ 244
  · exact pre4 s m h1 hm ⟨by omega, r4⟩ hw
  have a1 := run_none (s := s) (.inr (by omega))
  have a2 := run_none (s := s.extract 0 m) (.inr (by rw [b0]; omega))
  rw [a1, a2]
/-- What is read at a place does not hang on what is cut off behind it. -/
theorem run_pre (t : ByteArray) (i q : Nat) (hq : q ≤ t.size) (hi : i < q) (hw : i + (runM t i).2 ≤ q) : runM (t.extract 0 q) i = runM t i := by
  have hz : (t.extract 0 q).size = q := by rw [ByteArray.size_extract]; omega
  have e1 := run_ext (t.extract 0 q) i (by omega)
  have e2 := run_ext t i (by omega)
  rw [← e1, ← e2, hz]
  have e3 : (t.extract 0 q).extract i q = (t.extract i t.size).extract 0 (q - i) := by
    rw [ByteArray.extract_extract, ByteArray.extract_extract, show 0 + i = i + 0 by omega, show min (0 + q) q = q by omega, show min (i + (q - i)) t.size = q by omega]
  rw [e3]
  exact run_pre0 _ _ (by omega) (by rw [ByteArray.size_extract]; omega) (by rw [e2]; omega)
/-- So many runes lie between two places. -/
def Way (t : ByteArray) : Nat → Nat → Nat → Prop
  | p, 0, q => p = q
  | p, k + 1, q => p < t.size ∧ Way t (p + (runM t p).2) k q
theorem way_snoc {t : ByteArray} : ∀ (k : Nat) {p q : Nat}, Way t p k q → q < t.size → Way t p (k + 1) (q + (runM t q).2)
  | 0, p, q, h, hq => by
    have h : p = q := h
    subst h
    exact ⟨hq, rfl⟩
  | k + 1, p, q, h, hq => ⟨h.1, way_snoc k h.2 hq⟩
theorem way_le {t : ByteArray} : ∀ (k : Nat) {p q : Nat}, Way t p k q → p + k ≤ q
  | 0, p, q, h => by have h : p = q := h; omega
  | k + 1, p, q, h => by
    have h1 := way_le k h.2
    have h2 := wid_pos t p h.1
    omega
theorem way_pre {t : ByteArray} {m : Nat} (hm : m ≤ t.size) : ∀ (k : Nat) {p : Nat}, Way t p k m → Way (t.extract 0 m) p k m
  | 0, p, h => h
  | k + 1, p, h => by
    have hz : (t.extract 0 m).size = m := by rw [ByteArray.size_extract]; omega
    have h1 := way_le k h.2
    have h2 := wid_pos t p h.1
    refine ⟨by omega, ?_⟩
    rw [run_pre t p m hm (by omega) (by omega)]
    exact way_pre hm k h.2
theorem way_cnt {u : ByteArray} : ∀ (k : Nat) {p b : Nat}, Way u p k u.size → u.size ≤ p + b → (runesF u b p).length = k
  | 0, p, b, h, _ => by
    have h : p = u.size := h
    rw [runesF_end u b p (by omega)]
    rfl
  | k + 1, p, b, h, hb => by
    have h2 := wid_pos u p h.1
    obtain ⟨b', rfl⟩ : ∃ b', b = b' + 1 := ⟨b - 1, by have := h.1; omega⟩
    rw [runesF_step u b' p h.1, List.length_cons, way_cnt k h.2 (by omega)]
/-- How many runes a text has. -/
def cnt (u : ByteArray) : Nat := (runesF u u.size 0).length
theorem cnt_way {t : ByteArray} {k m : Nat} (h : Way t 0 k m) (hm : m ≤ t.size) : cnt (t.extract 0 m) = k := by
  have hz : (t.extract 0 m).size = m := by rw [ByteArray.size_extract]; omega
  refine way_cnt k (p := 0) ?_ (by omega)
  rw [hz]
  exact way_pre hm k h
theorem wid_cont0 (s : ByteArray) (h : 2 ≤ (runM s 0).2) : 128 ≤ byt s ((runM s 0).2 - 1) := by
  have bd := byt_bd s 0
  by_cases r0 : byt s 0 < 128
  · rw [run_ascii r0] at h; simp at h
  by_cases r1 : byt s 0 ≤ 193
  · rw [run_none (.inl ⟨by omega, r1⟩)] at h; simp at h
  by_cases r2 : byt s 0 ≤ 223
  · have hr : 194 ≤ byt s 0 ∧ byt s 0 ≤ 223 := ⟨by omega, r2⟩
    by_cases hs : s.size < 2
    · rw [run2_short hr hs] at h; simp at h
    by_cases c1 : 128 ≤ byt s 1 ∧ byt s 1 ≤ 191
    · rw [run2_ok hr (by omega) c1]; exact c1.1
    · rw [run2_c1 hr (by omega)] at h; simp at h
  by_cases r3 : byt s 0 ≤ 239
  · have hr : 224 ≤ byt s 0 ∧ byt s 0 ≤ 239 := ⟨by omega, r3⟩
    by_cases hs : s.size < 3
    · rw [run3_short hr hs] at h; simp at h
    by_cases c1 : 128 ≤ byt s 1 ∧ byt s 1 ≤ 191
    · by_cases c2 : 128 ≤ byt s 2 ∧ byt s 2 ≤ 191
      · by_cases l1 : ((byt s 0 - 224) * 64 + byt s 1 - 128) * 64 + byt s 2 - 128 < 2048
        · rw [run3_low hr c1 c2 l1] at h; simp at h
        by_cases l2 : 55296 ≤ ((byt s 0 - 224) * 64 + byt s 1 - 128) * 64 + byt s 2 - 128 ∧ ((byt s 0 - 224) * 64 + byt s 1 - 128) * 64 + byt s 2 - 128 ≤ 57343
        · rw [run3_sur hr c1 c2 l2] at h; simp at h
        rw [run3_ok hr (by omega) c1 c2 l1 l2]; exact c2.1
      · rw [run3_c2 hr (by omega)] at h; simp at h
    · rw [run3_c1 hr (by omega)] at h; simp at h
  by_cases r4 : byt s 0 ≤ 244
  · have hr : 240 ≤ byt s 0 ∧ byt s 0 ≤ 244 := ⟨by omega, r4⟩
    by_cases hs : s.size < 4
    · rw [run4_short hr hs] at h; simp at h
    by_cases c1 : 128 ≤ byt s 1 ∧ byt s 1 ≤ 191
    · by_cases c2 : 128 ≤ byt s 2 ∧ byt s 2 ≤ 191
      · by_cases c3 : 128 ≤ byt s 3 ∧ byt s 3 ≤ 191
        · by_cases l1 : 65536 ≤ (((byt s 0 - 240) * 64 + byt s 1 - 128) * 64 + byt s 2 - 128) * 64 + byt s 3 - 128 ∧ (((byt s 0 - 240) * 64 + byt s 1 - 128) * 64 + byt s 2 - 128) * 64 + byt s 3 - 128 ≤ 1114111
          · rw [run4_ok hr (by omega) c1 c2 c3 l1]; exact c3.1
          · rw [run4_out hr c1 c2 c3 l1] at h; simp at h
        · rw [run4_c3 hr (by omega)] at h; simp at h
      · rw [run4_c2 hr (by omega)] at h; simp at h
    · rw [run4_c1 hr (by omega)] at h; simp at h
  rw [run_none (.inr (by omega))] at h; simp at h
theorem wid_cont (t : ByteArray) (x : Nat) (hx : x ≤ t.size) (h : 2 ≤ (runM t x).2) : 128 ≤ byt t (x + ((runM t x).2 - 1)) := by
  have e := run_ext t x hx
  have := wid_cont0 (t.extract x t.size) (by rw [e]; exact h)
  rw [e, byt_ext] at this
  exact this
/-- A place behind a byte that is a rune by itself is a rune's end, and so is the place ahead of it. -/
theorem way_back {t : ByteArray} : ∀ (k : Nat) {p q : Nat}, Way t p k (q + 1) → p < q + 1 → byt t q < 128 → q < t.size → ∃ k', k' < k ∧ Way t p k' q
  | 0, p, q, h, hp, _, _ => by have h : p = q + 1 := h; omega
  | k + 1, p, q, h, hp, hb, hq => by
    have h2 := wid_pos t p h.1
    by_cases e : p + (runM t p).2 = q + 1
    · by_cases hw : 2 ≤ (runM t p).2
      · have := wid_cont t p (by have := h.1; omega) hw
        rw [show p + ((runM t p).2 - 1) = q by omega] at this
        omega
      · exact ⟨0, by omega, show p = q by omega⟩
    · have hl := way_le k h.2
      obtain ⟨k', hk', hw'⟩ := way_back k h.2 (by omega) hb hq
      exact ⟨k' + 1, by omega, h.1, hw'⟩
theorem way_tail {t : ByteArray} : ∀ (d k m : Nat), Way t 0 k (m + d) → m + d ≤ t.size → (∀ j, m ≤ j → j < m + d → byt t j = 32) → ∃ k', k' ≤ k ∧ Way t 0 k' m
  | 0, k, m, h, _, _ => ⟨k, Nat.le_refl _, h⟩
  | d + 1, k, m, h, hs, hb => by
    obtain ⟨k1, h1, w1⟩ := way_back k (q := m + d) h (by omega) (by rw [hb (m + d) (by omega) (by omega)]; omega) (by omega)
    obtain ⟨k2, h2, w2⟩ := way_tail d k1 m w1 (by omega) (fun j a b => hb j a (by omega))
    exact ⟨k2, by omega, w2⟩
theorem cnt_trimR {t : ByteArray} {q k : Nat} (h : Way t 0 k q) (hq : q ≤ t.size) : cnt (trimR (t.extract 0 q)) ≤ k := by
  have hz : (t.extract 0 q).size = q := by rw [ByteArray.size_extract]; omega
  obtain ⟨m, hm⟩ := tail_is (t.extract 0 q)
  have hm1 := hm.1
  rw [hz] at hm1
  have hb : ∀ j, m ≤ j → j < m + (q - m) → byt t j = 32 := fun j a b => by
    have := hm.2.1 j a (by omega)
    rw [byt_take t q j (by omega) hq] at this
    exact this
  obtain ⟨k', h1, w1⟩ := way_tail (q - m) k m (by rw [show m + (q - m) = q by omega]; exact h) (by omega) hb
  have e : trimR (t.extract 0 q) = t.extract 0 m := by
    rw [trimR_eq hm, ByteArray.extract_extract]
    congr 1
    omega
  rw [e, cnt_way w1 (by omega)]
  exact h1
/-- No line is wider than told. -/
theorem cut_cnt (t : ByteArray) (wide : Int) : ∀ (f p many : Nat) (bl : Int), Way t 0 many p → (many : Int) ≤ wide → p ≤ t.size → t.size + 1 ≤ p + f → (bl < 0 ∨ ∃ q c : Nat, bl = (q : Int) ∧ q ≤ t.size ∧ Way t 0 c q ∧ (c : Int) ≤ wide) → (cnt (cutF t wide f p (many : Int) bl).1 : Int) ≤ wide
  | 0, p, many, bl, _, _, h3, h4, _ => by omega
  | f + 1, p, many, bl, h1, h2, h3, h4, h5 => by
    by_cases h : p < t.size
    · obtain ⟨bl', hb⟩ : ∃ b, (if byt t p = 32 then (p : Int) else bl) = b := ⟨_, rfl⟩
      have h5' : bl' < 0 ∨ ∃ q c : Nat, bl' = (q : Int) ∧ q ≤ t.size ∧ Way t 0 c q ∧ (c : Int) ≤ wide := by
        by_cases hq : byt t p = 32
        · rw [if_pos hq] at hb
          exact .inr ⟨p, many, hb.symm, h3, h1, h2⟩
        · rw [if_neg hq] at hb
          rw [← hb]
          exact h5
      by_cases hm : (many : Int) < wide
      · rw [cutF_go t wide f p many bl bl' h hm hb]
        have hw := wid_pos t p h
        have hw2 := wid_le t p h
        exact cut_cnt t wide f _ (many + 1) bl' (way_snoc many h1 h) (by omega) hw2 (by omega) h5'
      · by_cases hb0 : bl' < 0
        · rw [cutF_cut t wide f p many bl bl' h hm hb hb0]
          dsimp only
          rw [cnt_way h1 h3]
          exact h2
        · rw [cutF_blank t wide f p many bl bl' h hm hb hb0]
          obtain ⟨q, c, rfl, hq, hc, hcw⟩ := h5'.resolve_left hb0
          have := cnt_trimR hc hq
          simp only [Int.toNat_natCast]
          omega
    · rw [cutF_end t wide (f + 1) p many bl h]
      dsimp only
      have e : p = t.size := by omega
      subst e
      have := cnt_way h1 (Nat.le_refl _)
      rw [ext_whole] at this
      omega
theorem trimR_size (t : ByteArray) : (trimR t).size ≤ t.size := by
  obtain ⟨k, hk⟩ := tail_is t
  rw [trimR_eq hk, ByteArray.size_extract]
  omega
theorem cut_size (t : ByteArray) (wide : Int) : ∀ (f p : Nat) (many bl : Int), (cutF t wide f p many bl).1.size ≤ t.size
  | 0, p, many, bl => Nat.le_refl _
  | f + 1, p, many, bl => by
    by_cases h : p < t.size
    · obtain ⟨bl', hb⟩ : ∃ b, (if byt t p = 32 then (p : Int) else bl) = b := ⟨_, rfl⟩
      by_cases hm : many < wide
      · rw [cutF_go t wide f p many bl bl' h hm hb]
        exact cut_size t wide f _ _ _
      · by_cases hb0 : bl' < 0
        · rw [cutF_cut t wide f p many bl bl' h hm hb hb0]
          dsimp only
          rw [ByteArray.size_extract]
          omega
        · rw [cutF_blank t wide f p many bl bl' h hm hb hb0]
          dsimp only
          have h1 := trimR_size (t.extract 0 bl'.toNat)
          rw [ByteArray.size_extract] at h1
          omega
    · rw [cutF_end t wide (f + 1) p many bl h]
      exact Nat.le_refl _
theorem row_cnt (wide : Int) (hw : 1 ≤ wide) : ∀ (f : Nat) (t : ByteArray), ∀ x ∈ rowF wide f t, (cnt x : Int) ≤ wide ∧ x.size ≤ t.size
  | 0, t, x, hx => by simp [rowF] at hx
  | f + 1, t, x, hx => by
    unfold rowF at hx
    rcases List.mem_cons.1 hx with hx | hx
    · subst hx
      refine ⟨cut_cnt t wide (t.size + 1) 0 0 (-1) rfl (by omega) (by omega) (by omega) (.inl (by omega)), cut_size t wide _ 0 0 (-1)⟩
    · split at hx
      · simp at hx
      · rename_i h0
        have h1 := row_cnt wide hw f _ x hx
        have h2 := (cutA_less t wide hw).resolve_left h0
        exact ⟨h1.1, by omega⟩
theorem wrap_cnt {s : ByteArray} {wide : Int} (h : WrapOk s wide) : ∀ x ∈ (wrapA s wide).1, (cnt x : Int) ≤ wide ∧ x.size ≤ 400 := by
  rw [wrapA_yes h]
  intro x hx
  unfold rowsA at hx
  obtain ⟨t, ht, hx⟩ := List.mem_flatMap.1 hx
  have h1 := row_cnt wide h.2.1 _ t x hx
  have h2 := splF_sz s _ _ _ t ht
  have := h.1
  exact ⟨h1.1, by omega⟩

end Go.Proofs.YtaofilinejanjaaDoor
