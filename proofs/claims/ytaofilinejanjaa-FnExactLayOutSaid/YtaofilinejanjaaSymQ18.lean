/-
  Rising lists searched and cut; free of the program.
-/
import Derived.Test.YtaofilinejanjaaSymI18
namespace Go.Proofs.Ytaofilinejanjaa
open Go.ChangeShapes Go.WideShapes Go.ChangeAt Go.RowKit

set_option maxRecDepth 100000
set_option linter.unusedVariables false

theorem srt_le {r : Int → Int} {l : List Int} (h : Srt r l) {i j : Nat} {u v : Int} (hi : l[i]? = some u) (hj : l[j]? = some v) (hij : i ≤ j) : r v ≤ r u := by
  rcases Nat.lt_or_ge i j with hlt | hge
  · obtain ⟨h1, rfl⟩ := List.getElem?_eq_some_iff.1 hi
    obtain ⟨h2, rfl⟩ := List.getElem?_eq_some_iff.1 hj
    have := List.pairwise_iff_getElem.1 h i j h1 h2 hlt
    unfold bef at this
    omega
  · have e : i = j := by omega
    subst e
    rw [hi] at hj
    cases hj
    exact Int.le_refl _
theorem take_all {l : List Int} {t : Nat} {Q : Int → Prop} (h : ∀ k v, k < t → l[k]? = some v → Q v) : ∀ v ∈ l.take t, Q v := fun v hv => by
  obtain ⟨k, hk⟩ := List.mem_iff_getElem?.1 hv
  have hlt : k < t := by have := (List.getElem?_eq_some_iff.1 hk).1; rw [List.length_take] at this; omega
  rw [List.getElem?_take_of_lt hlt] at hk
  exact h k v hlt hk
theorem drop_all {l : List Int} {t : Nat} {Q : Int → Prop} (h : ∀ k v, t ≤ k → l[k]? = some v → Q v) : ∀ v ∈ l.drop t, Q v := fun v hv => by
  obtain ⟨k, hk⟩ := List.mem_iff_getElem?.1 hv
  rw [List.getElem?_drop] at hk
  exact h (t + k) v (by omega) hk
theorem srt_take {r : Int → Int} {l : List Int} (h : Srt r l) (t : Nat) : Srt r (l.take t) := h.sublist (List.take_sublist _ _)
theorem srt_drop {r : Int → Int} {l : List Int} (h : Srt r l) (t : Nat) : Srt r (l.drop t) := h.sublist (List.drop_sublist _ _)
theorem srt_two {r : Int → Int} {l : List Int} (h : Srt r l) (t : Nat) : ∀ x ∈ l.take t, ∀ y ∈ l.drop t, bef r x y := by
  have h2 : Srt r (l.take t ++ l.drop t) := by rw [List.take_append_drop]; exact h
  exact (List.pairwise_append.1 h2).2.2
/-- Two rising lists cut so that all of the first halves come ahead of all of the second ones. -/
theorem sym_sep {r : Int → Int} {A B : List Int} {s e : Nat} (hA : Srt r A) (hB : Srt r B) (hAB : ∀ x ∈ A, ∀ y ∈ B, x < y) (hs : s ≤ A.length) (he : e ≤ B.length)
    (h1 : 0 < s → e < B.length → ∀ u v, A[s - 1]? = some u → B[e]? = some v → ¬ r u < r v)
    (h2 : 0 < e → s < A.length → ∀ u v, A[s]? = some u → B[e - 1]? = some v → r u < r v) : ∀ x ∈ A.take s ++ B.take e, ∀ y ∈ A.drop s ++ B.drop e, bef r x y := by
  intro x hx y hy
  rcases List.mem_append.1 hx with hx | hx
  · rcases List.mem_append.1 hy with hy | hy
    · exact srt_two hA s x hx y hy
    · have hxy := hAB x (List.mem_of_mem_take hx) y (List.mem_of_mem_drop hy)
      obtain ⟨i, hi⟩ := List.mem_iff_getElem?.1 hx
      obtain ⟨j, hj⟩ := List.mem_iff_getElem?.1 hy
      have hil := (List.getElem?_eq_some_iff.1 hi).1
      rw [List.length_take] at hil
      rw [List.getElem?_take_of_lt (by omega)] at hi
      rw [List.getElem?_drop] at hj
      have hjl := (List.getElem?_eq_some_iff.1 hj).1
      obtain ⟨u, hu⟩ : ∃ u, A[s - 1]? = some u := ⟨_, List.getElem?_eq_getElem (by omega)⟩
      obtain ⟨v, hv⟩ : ∃ v, B[e]? = some v := ⟨_, List.getElem?_eq_getElem (by omega)⟩
      have h3 := h1 (by omega) (by omega) u v hu hv
      have h4 := srt_le hA hi hu (by omega)
      have h5 := srt_le hB hv hj (by omega)
      unfold bef
      omega
  · rcases List.mem_append.1 hy with hy | hy
    · obtain ⟨i, hi⟩ := List.mem_iff_getElem?.1 hx
      obtain ⟨j, hj⟩ := List.mem_iff_getElem?.1 hy
      have hil := (List.getElem?_eq_some_iff.1 hi).1
      rw [List.length_take] at hil
      rw [List.getElem?_take_of_lt (by omega)] at hi
      rw [List.getElem?_drop] at hj
      have hjl := (List.getElem?_eq_some_iff.1 hj).1
      obtain ⟨u, hu⟩ : ∃ u, A[s]? = some u := ⟨_, List.getElem?_eq_getElem (by omega)⟩
      obtain ⟨v, hv⟩ : ∃ v, B[e - 1]? = some v := ⟨_, List.getElem?_eq_getElem (by omega)⟩
      have h3 := h2 (by omega) (by omega) u v hu hv
      have h4 := srt_le hB hi hv (by omega)
      have h5 := srt_le hA hu hj (by omega)
      unfold bef
      omega
    · exact srt_two hB e x hx y hy
theorem nil_of_len {l : List Int} (h : l.length = 0) : l = [] := List.eq_nil_of_length_eq_zero h
theorem at_in (P A S : List Int) (k i : Nat) (hk : P.length + i = k) (hi : i < A.length) : (P ++ A ++ S)[k]? = A[i]? := by
  subst hk
  rw [List.append_assoc, List.getElem?_append_right (by omega), show P.length + i - P.length = i by omega, List.getElem?_append_left hi]

end Go.Proofs.Ytaofilinejanjaa
