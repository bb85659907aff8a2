/-
  Music beat by beat, free of the program.
-/
import Derived.Test.YtapfafibhjpkdaaDoorSMus15
import Derived.Test.YtapfafibhjpkdaaDoorNum15
namespace Go.Proofs.YtapfafibhjpkdaaDoor
open Go.ChangeShapes Go.WideShapes Go.ChangeAt Go.RowKit

set_option maxRecDepth 100000
set_option linter.unusedVariables false

def secD (l : List SectionD) (nm : ByteArray) : SectionD := match fstS l nm with
  | some k => (l[k]?).getD (⟨#[]⟩, 0, [], ⟨#[]⟩)
  | none => (⟨#[]⟩, 0, [], ⟨#[]⟩)
def MusOk (l : List SectionD) (m : MusicD) : Prop := ∃ k d, fstS l m.1 = some k ∧ l[k]? = some d ∧ (0 ≤ m.2.1 ∧ m.2.1 < d.2.1) ∧ (emptyB m.2.2 = true ∨ hasB l m.2.2 = true)
def memB (x : Int) (l : List Int) : Bool := decide (x ∈ l)
def leaveM (l : List SectionD) (m : MusicD) : MusicD := if emptyB m.2.2 = false ∧ memB m.2.1 (secD l m.1).2.2.1 = true then (m.2.2, 0, ⟨#[]⟩) else m
def nextM (l : List SectionD) (m : MusicD) : MusicD := if m.2.1 + 1 = (secD l m.1).2.1 then ((secD l m.1).2.2.2, 0, m.2.2) else (m.1, m.2.1 + 1, m.2.2)
def heardT (m : MusicD) : ByteArray := m.1 ++ ⟨#[58]⟩ ++ numT m.2.1.toNat
def runS (l : List SectionD) (m : MusicD) : Nat → MusicD × List ByteArray
  | 0 => (m, [])
  | k + 1 => (nextM l (leaveM l (runS l m k).1), (runS l m k).2 ++ [heardT (leaveM l (runS l m k).1)])
theorem secD_at {l : List SectionD} {nm : ByteArray} {k : Nat} {d : SectionD} (h : fstS l nm = some k) (hd : l[k]? = some d) : secD l nm = d := by
  unfold secD
  rw [h]
  simp [hd]
theorem has_some {l : List SectionD} {nm : ByteArray} (h : hasB l nm = true) : ∃ k d, fstS l nm = some k ∧ l[k]? = some d := by
  unfold hasB at h
  cases hq : fstS l nm with
  | none => rw [hq] at h; simp at h
  | some k =>
    obtain ⟨d, hd, _⟩ := fst_get hq
    exact ⟨k, d, rfl, hd⟩
theorem sec_beats {l : List SectionD} (hS : SecsP l) {k : Nat} {d : SectionD} (hd : l[k]? = some d) : (1 ≤ d.2.1 ∧ d.2.1 ≤ 64) ∧ hasB l d.2.2.2 = true := by
  have := (hS.2 k (List.getElem?_eq_some_iff.1 hd).1) d hd
  exact ⟨this.1.2.1, this.2.2⟩
theorem emptyN : emptyB ⟨#[]⟩ = true := by unfold emptyB; rw [ByteArray.toList_eq]; rfl
theorem leave_ok {l : List SectionD} {m : MusicD} (hS : SecsP l) (h : MusOk l m) : MusOk l (leaveM l m) := by
  unfold leaveM
  split
  · rename_i hc
    obtain ⟨k, d, h1, h2, h3, h4⟩ := h
    rcases h4 with h4 | h4
    · rw [h4] at hc; exact absurd hc.1 (by simp)
    · obtain ⟨k', d', e1, e2⟩ := has_some h4
      exact ⟨k', d', e1, e2, ⟨Int.le_refl _, by have := (sec_beats hS e2).1; show (0 : Int) < d'.2.1; omega⟩, .inl emptyN⟩
  · exact h
theorem next_ok {l : List SectionD} {m : MusicD} (hS : SecsP l) (h : MusOk l m) : MusOk l (nextM l m) := by
  obtain ⟨k, d, h1, h2, h3, h4⟩ := h
  unfold nextM
  rw [secD_at h1 h2]
  split
  · obtain ⟨k', d', e1, e2⟩ := has_some (sec_beats hS h2).2
    exact ⟨k', d', e1, e2, ⟨Int.le_refl _, by have := (sec_beats hS e2).1; show (0 : Int) < d'.2.1; omega⟩, h4⟩
  · rename_i hc
    exact ⟨k, d, h1, h2, ⟨by show 0 ≤ m.2.1 + 1; omega, by show m.2.1 + 1 < d.2.1; omega⟩, h4⟩
theorem run_ok {l : List SectionD} {m : MusicD} (hS : SecsP l) (h : MusOk l m) : ∀ k, MusOk l (runS l m k).1
  | 0 => h
  | k + 1 => next_ok hS (leave_ok hS (run_ok hS h k))
theorem run_len (l : List SectionD) (m : MusicD) : ∀ k, (runS l m k).2.length = k
  | 0 => rfl
  | k + 1 => by rw [runS]; simp [run_len l m k]
theorem toListI {a b : ByteArray} (h : a.toList = b.toList) : a = b := by
  rw [ByteArray.toList_eq, ByteArray.toList_eq] at h
  exact ByteArray.ext (Array.toList_inj.1 (by simpa using h))

end Go.Proofs.YtapfafibhjpkdaaDoor
