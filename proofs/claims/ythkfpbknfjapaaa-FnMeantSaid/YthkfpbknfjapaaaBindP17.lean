/-
  Binds as they must be; free of the program.
-/
import Derived.Test.YthkfpbknfjapaaaBinds
import Derived.Test.YthkfpbknfjapaaaLeaf17
import Derived.Test.YthkfpbknfjapaaaLess
namespace Go.Proofs.Ythkfpbknfjapaaa
open Go.ChangeShapes Go.WideShapes Go.ChangeAt Go.RowKit

set_option maxRecDepth 100000
set_option linter.unusedVariables false

/-- Numbers that rise, from 0 on, below a limit. -/
def SortAt (s : Int) (l : List Int) (i : Nat) : Prop := ∀ p, l[i]? = some p → 0 ≤ p ∧ p < s ∧ ∀ q, i ≠ 0 → l[i - 1]? = some q → q < p
def RiseP (s : Int) (l : List Int) : Prop := ∀ i, i < l.length → SortAt s l i
def ChordP (l : List Int) : Prop := (1 ≤ l.length ∧ l.length ≤ 4) ∧ RiseP 100 l
def hasC (l : List BindD) (c : List Int) : Bool := l.any fun d => decide (d.2 = c)
def BindOk (l : List BindD) (j : Nat) : Prop := ∀ d, l[j]? = some d → nameB d.1 = true ∧ ChordP d.2 ∧ (∀ q, 0 < j → l[j - 1]? = some q → less q.1 d.1 = true) ∧ hasC (l.take j) d.2 = false
def BindsP (l : List BindD) : Prop := l.length ≤ 20 ∧ ∀ j, j < l.length → BindOk l j
def ixI : Option Nat → Int
  | some i => i
  | none => -1
theorem ix_pos (o : Option Nat) : decide (0 ≤ ixI o) = o.isSome := by
  cases o with
  | none => rfl
  | some i => simp [ixI]
theorem idx_yes {α : Type} {l : List α} {p : α → Bool} {k : Nat} {d : α} (h : ∀ j d, j < k → l[j]? = some d → p d = false) (hd : l[k]? = some d) (he : p d = true) : l.findIdx? p = some k := by
  rw [List.findIdx?_eq_some_iff_getElem]
  obtain ⟨hk, e⟩ := List.getElem?_eq_some_iff.1 hd
  refine ⟨hk, by rw [e]; exact he, fun j hj => ?_⟩
  have hj2 : j < l.length := by omega
  have := h j l[j] hj (List.getElem?_eq_getElem hj2)
  rw [this]
  simp
theorem idx_no {α : Type} {l : List α} {p : α → Bool} (h : ∀ j d, j < l.length → l[j]? = some d → p d = false) : l.findIdx? p = none := by
  rw [List.findIdx?_eq_none_iff]
  intro d hd
  obtain ⟨j, hj⟩ := List.mem_iff_getElem?.1 hd
  exact h j d (List.getElem?_eq_some_iff.1 hj).1 hj
theorem idx_more {α : Type} {l : List α} {p : α → Bool} {k : Nat} {d : α} (h : ∀ j d, j < k → l[j]? = some d → p d = false) (hd : l[k]? = some d) (he : p d = false) : ∀ j d, j < k + 1 → l[j]? = some d → p d = false := fun j d' hj hd' => by
  by_cases e : j = k
  · subst e
    rw [hd] at hd'
    cases hd'
    exact he
  · exact h j d' (by omega) hd'
theorem idx_any {α : Type} (l : List α) (p : α → Bool) : (l.findIdx? p).isSome = l.any p := by
  rw [List.findIdx?_isSome]
theorem any_take {α : Type} {l : List α} {p : α → Bool} {k : Nat} (h : ∀ j d, j < k → l[j]? = some d → p d = false) : (l.take k).any p = false := by
  rw [List.any_eq_false]
  intro d hd
  obtain ⟨j, hj⟩ := List.mem_iff_getElem?.1 hd
  rw [List.getElem?_take] at hj
  split at hj
  · rename_i hjk
    rw [h j d hjk hj]
    simp
  · cases hj
theorem any_at {α : Type} {l : List α} {p : α → Bool} {i k : Nat} {d : α} (hi : i < k) (hd : l[i]? = some d) (h : p d = true) : (l.take k).any p = true := by
  rw [List.any_eq_true]
  refine ⟨d, ?_, h⟩
  refine List.mem_iff_getElem?.2 ⟨i, ?_⟩
  rw [List.getElem?_take, if_pos hi]
  exact hd
theorem row_take {α : Type} {f : α → List Value} {w : World} {ao : Option Addr} {n cap : Nat} {ts : List α} (h : RowAt w (.slice ao n cap) n (ts.flatMap f)) (i : Nat) : RowAt w (.slice ao i cap) i ((ts.take i).flatMap f) := by
  obtain ⟨ao', cap', e, h⟩ := h
  cases e
  refine ⟨ao, cap, rfl, fun j x hx => h j x ?_⟩
  have e : ts.flatMap f = (ts.take i).flatMap f ++ (ts.drop i).flatMap f := by rw [← List.flatMap_append, List.take_append_drop]
  rw [e, List.getElem?_append_left (List.getElem?_eq_some_iff.1 hx).1]
  exact hx
theorem BindsAt.take {w : World} {ao : Option Addr} {cap : Nat} {ds : List BindD} (h : BindsAt w (.slice ao ds.length cap) ds) (i : Nat) (hi : i ≤ ds.length) : BindsAt w (.slice ao i cap) (ds.take i) := by
  obtain ⟨ts, ⟨h1, h2⟩, e⟩ := h
  have hl := binds_len e
  refine ⟨ts.take i, ⟨?_, fun p hp => h2 p (List.mem_of_mem_take hp)⟩, by rw [← e, List.map_take]⟩
  have e2 : (ts.take i).length = i := by rw [List.length_take]; omega
  rw [e2]
  rw [hl] at h1
  exact row_take h1 i
theorem cap_of {w : World} {lo hi : Nat} {ao : Option Addr} {cap : Nat} {ds : List BindD} (h : BindsO w lo hi (.slice ao ds.length cap) ds) : ds.length ≤ cap ∧ cap ≤ 9223372036854775807 := by
  obtain ⟨ts, h, e⟩ := h
  have hl := binds_len e
  rcases h.row.1.2 with ⟨hf, h0⟩ | ⟨g, c, cur, hf, _, _, h1, h2, _⟩
  · injection hf with _ e1 e2
    omega
  · injection hf with _ e1 e2
    unfold maxLen at h2
    omega

end Go.Proofs.Ythkfpbknfjapaaa
