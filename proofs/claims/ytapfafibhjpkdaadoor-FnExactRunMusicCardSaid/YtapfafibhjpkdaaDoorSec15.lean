/-
  Sections: the first of a name, and good ones; free of the program.
-/
import Derived.Test.YtapfafibhjpkdaaDoorSecs
import Derived.Test.YtapfafibhjpkdaaDoorName
namespace Go.Proofs.YtapfafibhjpkdaaDoor
open Go.ChangeShapes Go.WideShapes Go.ChangeAt Go.RowKit

set_option maxRecDepth 100000
set_option linter.unusedVariables false

/-- The first section of a name, if there is one. -/
def fstS (l : List SectionD) (nm : ByteArray) : Option Nat := l.findIdx? fun d => d.1.toList == nm.toList
def ixI : Option Nat → Int
  | some i => i
  | none => -1
def hasB (l : List SectionD) (nm : ByteArray) : Bool := (fstS l nm).isSome
def Before (l : List SectionD) (nm : ByteArray) (k : Nat) : Prop := ∀ j d, j < k → l[j]? = some d → (d.1.toList == nm.toList) = false
theorem fst_some {l : List SectionD} {nm : ByteArray} {k : Nat} {d : SectionD} (h : Before l nm k) (hd : l[k]? = some d) (he : (d.1.toList == nm.toList) = true) : fstS l nm = some k := by
  unfold fstS
  rw [List.findIdx?_eq_some_iff_getElem]
  obtain ⟨hk, e⟩ := List.getElem?_eq_some_iff.1 hd
  refine ⟨hk, by rw [e]; exact he, fun j hj => ?_⟩
  have hj2 : j < l.length := by omega
  have := h j l[j] hj (List.getElem?_eq_getElem hj2)
  rw [this]
  simp
theorem fst_none {l : List SectionD} {nm : ByteArray} (h : Before l nm l.length) : fstS l nm = none := by
  unfold fstS
  rw [List.findIdx?_eq_none_iff]
  intro d hd
  obtain ⟨j, hj⟩ := List.mem_iff_getElem?.1 hd
  exact h j d (List.getElem?_eq_some_iff.1 hj).1 hj
theorem before_next {l : List SectionD} {nm : ByteArray} {k : Nat} {d : SectionD} (h : Before l nm k) (hd : l[k]? = some d) (he : (d.1.toList == nm.toList) = false) : Before l nm (k + 1) := fun j d' hj hd' => by
  by_cases e : j = k
  · subst e
    rw [hd] at hd'
    cases hd'
    exact he
  · exact h j d' (by omega) hd'
theorem fst_get {l : List SectionD} {nm : ByteArray} {k : Nat} (h : fstS l nm = some k) : ∃ d, l[k]? = some d ∧ d.1.toList = nm.toList := by
  unfold fstS at h
  rw [List.findIdx?_eq_some_iff_getElem] at h
  obtain ⟨hk, e, _⟩ := h
  exact ⟨l[k], List.getElem?_eq_getElem hk, by simpa using e⟩
theorem ix_neg (o : Option Nat) : decide (ixI o < 0) = !o.isSome := by
  cases o with
  | none => rfl
  | some i => exact decide_eq_false (by simp only [ixI]; omega)
theorem ix_pos (o : Option Nat) : decide (0 ≤ ixI o) = o.isSome := by
  cases o with
  | none => rfl
  | some i => simp [ixI]
/-- Numbers that rise, from 0 on, below a limit. -/
def SortAt (s : Int) (l : List Int) (i : Nat) : Prop := ∀ p, l[i]? = some p → 0 ≤ p ∧ p < s ∧ ∀ q, i ≠ 0 → l[i - 1]? = some q → q < p
def RiseP (s : Int) (l : List Int) : Prop := ∀ i, i < l.length → SortAt s l i
def SecOne (d : SectionD) : Prop := nameB d.1 = true ∧ (1 ≤ d.2.1 ∧ d.2.1 ≤ 64) ∧ RiseP d.2.1 d.2.2.1
def SecOk (l : List SectionD) (j : Nat) : Prop := ∀ d, l[j]? = some d → SecOne d ∧ hasB (l.take j) d.1 = false ∧ hasB l d.2.2.2 = true
def SecsP (l : List SectionD) : Prop := (1 ≤ l.length ∧ l.length ≤ 64) ∧ ∀ j, j < l.length → SecOk l j
theorem all_more {P : Nat → Prop} {k : Nat} (h : ∀ j, j < k → P j) (hk : P k) : ∀ j, j < k + 1 → P j := fun j hj => by
  by_cases e : j = k
  · subst e; exact hk
  · exact h j (by omega)
theorem row_take {α : Type} {f : α → List Value} {w : World} {ao : Option Addr} {n cap : Nat} {ts : List α} (h : RowAt w (.slice ao n cap) n (ts.flatMap f)) (i : Nat) : RowAt w (.slice ao i cap) i ((ts.take i).flatMap f) := by
  obtain ⟨ao', cap', e, h⟩ := h
  cases e
  refine ⟨ao, cap, rfl, fun j x hx => h j x ?_⟩
  have e : ts.flatMap f = (ts.take i).flatMap f ++ (ts.drop i).flatMap f := by rw [← List.flatMap_append, List.take_append_drop]
  rw [e, List.getElem?_append_left (List.getElem?_eq_some_iff.1 hx).1]
  exact hx
theorem SecsAt.take {w : World} {ao : Option Addr} {cap : Nat} {ds : List SectionD} (h : SecsAt w (.slice ao ds.length cap) ds) (i : Nat) (hi : i ≤ ds.length) : SecsAt w (.slice ao i cap) (ds.take i) := by
  obtain ⟨ts, ⟨h1, h2⟩, e⟩ := h
  have hl := secs_len e
  refine ⟨ts.take i, ⟨?_, fun p hp => h2 p (List.mem_of_mem_take hp)⟩, by rw [← e, List.map_take]⟩
  have e2 : (ts.take i).length = i := by rw [List.length_take]; omega
  rw [e2]
  rw [hl] at h1
  exact row_take h1 i

end Go.Proofs.YtapfafibhjpkdaaDoor
