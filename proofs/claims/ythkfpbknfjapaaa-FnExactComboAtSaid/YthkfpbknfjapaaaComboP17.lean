/-
  Combos; free of the program.
-/
import Derived.Test.YthkfpbknfjapaaaPure17
namespace Go.Proofs.Ythkfpbknfjapaaa
open Go.ChangeShapes Go.WideShapes Go.ChangeAt Go.RowKit

set_option maxRecDepth 100000
set_option linter.unusedVariables false

/-- Those that are on, among the first k: their numbers, and they themselves. -/
def onI (l : List MeantD) : Nat → List Int
  | 0 => []
  | k + 1 => match l[k]? with
    | some d => if d.2.2 then onI l k ++ [(k : Int)] else onI l k
    | none => onI l k
def onD (l : List MeantD) : Nat → List MeantD
  | 0 => []
  | k + 1 => match l[k]? with
    | some d => if d.2.2 then onD l k ++ [d] else onD l k
    | none => onD l k
theorem on_yes {l : List MeantD} {k : Nat} {d : MeantD} (h : l[k]? = some d) (ho : d.2.2 = true) : onI l (k + 1) = onI l k ++ [(k : Int)] ∧ onD l (k + 1) = onD l k ++ [d] := by simp [onI, onD, h, ho]
theorem on_no {l : List MeantD} {k : Nat} {d : MeantD} (h : l[k]? = some d) (ho : d.2.2 = false) : onI l (k + 1) = onI l k ∧ onD l (k + 1) = onD l k := by simp [onI, onD, h, ho]
theorem on_len (l : List MeantD) : ∀ k, (onI l k).length = (onD l k).length ∧ (onI l k).length ≤ k
  | 0 => ⟨rfl, Nat.le_refl _⟩
  | k + 1 => by
    have := on_len l k
    unfold onI onD
    split
    · split
      · simp; omega
      · omega
    · omega
theorem on_at (l : List MeantD) : ∀ (k j : Nat) (x : Int), (onI l k)[j]? = some x → ∃ (i : Nat) (d : MeantD), x = (i : Int) ∧ i < k ∧ l[i]? = some d ∧ (onD l k)[j]? = some d
  | 0, j, x, h => by simp [onI] at h
  | k + 1, j, x, h => by
    have hlen := (on_len l k).1
    cases hk : l[k]? with
    | none =>
      have e1 : onI l (k + 1) = onI l k := by simp [onI, hk]
      have e2 : onD l (k + 1) = onD l k := by simp [onD, hk]
      rw [e1] at h
      obtain ⟨i, d, h1, h2, h3, h4⟩ := on_at l k j x h
      exact ⟨i, d, h1, by omega, h3, by rw [e2]; exact h4⟩
    | some d =>
      cases hd : d.2.2 with
      | false =>
        obtain ⟨e1, e2⟩ := on_no hk hd
        rw [e1] at h
        obtain ⟨i, d', h1, h2, h3, h4⟩ := on_at l k j x h
        exact ⟨i, d', h1, by omega, h3, by rw [e2]; exact h4⟩
      | true =>
        obtain ⟨e1, e2⟩ := on_yes hk hd
        rw [e1] at h
        by_cases hj : j < (onI l k).length
        · rw [List.getElem?_append_left hj] at h
          obtain ⟨i, d', h1, h2, h3, h4⟩ := on_at l k j x h
          exact ⟨i, d', h1, by omega, h3, by rw [e2, List.getElem?_append_left (by omega)]; exact h4⟩
        · rw [List.getElem?_append_right (by omega)] at h
          obtain ⟨hj2, hx⟩ : j - (onI l k).length = 0 ∧ x = (k : Int) := by
            cases hq : j - (onI l k).length with
            | zero => rw [hq] at h; simp at h; exact ⟨rfl, h.symm⟩
            | succ n => rw [hq] at h; simp at h
          refine ⟨k, d, hx, by omega, hk, ?_⟩
          rw [e2, List.getElem?_append_right (by omega), show j - (onD l k).length = 0 by omega]
          rfl
theorem onD_mem (l : List MeantD) : ∀ (k : Nat) (d : MeantD), d ∈ onD l k → d ∈ l
  | 0, d, h => by simp [onD] at h
  | k + 1, d, h => by
    unfold onD at h
    split at h
    · rename_i e he
      split at h
      · rcases List.mem_append.1 h with h | h
        · exact onD_mem l k d h
        · simp at h
          subst h
          exact List.mem_of_getElem? he
      · exact onD_mem l k d h
    · exact onD_mem l k d h
/-- The last ones of a row are these names, near enough. -/
def EndP (ws : List MeantD) (cs : List ByteArray) (most : Int) : Prop := cs.length ≤ ws.length ∧ (∀ i d s, i < cs.length → ws[ws.length - cs.length + i]? = some d → cs[i]? = some s → (d.2.1.toList == s.toList) = true) ∧ ∀ a z, ws[ws.length - cs.length]? = some a → ws[ws.length - 1]? = some z → z.1 - a.1 ≤ most
noncomputable def comboK (l : List MeantD) (cs : List ByteArray) (most : Int) : Nat → List Int
  | 0 => []
  | k + 1 => match l[k]? with
    | some d => if d.2.2 && dec (EndP (onD l (k + 1)) cs most) then comboK l cs most k ++ [(k : Int)] else comboK l cs most k
    | none => comboK l cs most k
theorem combo_yes {l : List MeantD} {cs : List ByteArray} {most : Int} {k : Nat} {d : MeantD} (h : l[k]? = some d) (ho : d.2.2 = true) (he : EndP (onD l (k + 1)) cs most) : comboK l cs most (k + 1) = comboK l cs most k ++ [(k : Int)] := by
  rw [comboK, h]
  simp only [ho, dec_yes he, Bool.and_true, if_true]
theorem combo_no {l : List MeantD} {cs : List ByteArray} {most : Int} {k : Nat} {d : MeantD} (h : l[k]? = some d) (he : ¬ EndP (onD l (k + 1)) cs most) : comboK l cs most (k + 1) = comboK l cs most k := by
  rw [comboK, h]
  simp only [dec_no he, Bool.and_false, Bool.false_eq_true, if_false]
theorem combo_off {l : List MeantD} {cs : List ByteArray} {most : Int} {k : Nat} {d : MeantD} (h : l[k]? = some d) (ho : d.2.2 = false) : comboK l cs most (k + 1) = comboK l cs most k := by
  rw [comboK, h]
  simp only [ho, Bool.false_and, Bool.false_eq_true, if_false]
theorem combo_len (l : List MeantD) (cs : List ByteArray) (most : Int) : ∀ k, (comboK l cs most k).length ≤ k
  | 0 => Nat.le_refl _
  | k + 1 => by
    have := combo_len l cs most k
    rw [comboK]
    split
    · split
      · simp; omega
      · omega
    · omega
def NamesP (cs : List ByteArray) : Prop := (1 ≤ cs.length ∧ cs.length ≤ 10) ∧ ∀ j s, j < cs.length → cs[j]? = some s → nameB s = true
def ComboOk (l : List MeantD) (cs : List ByteArray) (most : Int) : Prop := MomsP l ∧ NamesP cs ∧ (0 ≤ most ∧ most ≤ 100000)
noncomputable def comboA (l : List MeantD) (cs : List ByteArray) (most : Int) : List Int × Bool := if dec (ComboOk l cs most) then (comboK l cs most l.length, true) else ([], false)
theorem comboA_no {l : List MeantD} {cs : List ByteArray} {most : Int} (h : ¬ ComboOk l cs most) : comboA l cs most = ([], false) := by unfold comboA; rw [dec_no h]; rfl
theorem comboA_yes {l : List MeantD} {cs : List ByteArray} {most : Int} (h : ComboOk l cs most) : comboA l cs most = (comboK l cs most l.length, true) := by unfold comboA; rw [dec_yes h]; rfl
theorem comboA_len (l : List MeantD) (cs : List ByteArray) (most : Int) : (comboA l cs most).1.length ≤ 200 := by
  rcases Classical.em (ComboOk l cs most) with h | h
  · rw [comboA_yes h]
    have := combo_len l cs most l.length
    have := h.1.1
    show (comboK l cs most l.length).length ≤ 200
    omega
  · rw [comboA_no h]
    simp
theorem moms_time {l : List MeantD} (h : MomsP l) : ∀ d ∈ l, 0 ≤ d.1 ∧ d.1 ≤ 100000 := fun d hd => by
  obtain ⟨j, hj⟩ := List.mem_iff_getElem?.1 hd
  exact (h.2 j (List.getElem?_eq_some_iff.1 hj).1 d hj).1

end Go.Proofs.Ythkfpbknfjapaaa
