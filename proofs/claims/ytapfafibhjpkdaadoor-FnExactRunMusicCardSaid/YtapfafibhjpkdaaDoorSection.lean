/-
  Sections as plain data, and how lists of them lie in memory.
-/
import Derived.Test.YtapfafibhjpkdaaDoorRows
import Derived.Test.YtapfafibhjpkdaaDoorNumM
namespace Go.Proofs.YtapfafibhjpkdaaDoor
open Go.ChangeShapes Go.WideShapes Go.ChangeAt Go.RowKit

abbrev SectionE := ByteArray × Int × (Value × List NumD) × ByteArray
abbrev SectionD := ByteArray × Int × List NumD × ByteArray
def sectionC (p : SectionE) : List Value := [.string p.1, .int .i64 p.2.1, p.2.2.1.1, .string p.2.2.2]
theorem sectionC_len (p : SectionE) : (sectionC p).length = 4 := rfl
def stripSection (p : SectionE) : SectionD := (p.1, p.2.1, p.2.2.1.2, p.2.2.2)
def section0 : SectionE := (ByteArray.empty, 0, (.slice none 0 0, []), ByteArray.empty)
def SectionAt (w : World) (v : Value) (ps : List SectionE) : Prop := RowAt w v ps.length (ps.flatMap sectionC) ∧ ∀ p ∈ ps, NumAt w p.2.2.1.1 p.2.2.1.2
theorem SectionAt.kept {w w' : World} {v : Value} {ps : List SectionE} (h : SectionAt w v ps) (k : Kept w w') : SectionAt w' v ps := ⟨RowAt.kept h.1 k, fun p hp => (h.2 p hp).kept k⟩
theorem section_get {w : World} {v : Value} {ps : List SectionE} (h : SectionAt w v ps) {i : Nat} {p : SectionE} (hp : ps[i]? = some p) :
    ∃ b o cap, v = .slice (some ⟨b, o, none⟩) ps.length cap ∧ w.cell? ⟨b, o + i * 4, none⟩ = some (.string p.1) ∧ w.cell? ⟨b, o + i * 4 + 1, none⟩ = some (.int .i64 p.2.1) ∧ w.cell? ⟨b, o + i * 4 + 2, none⟩ = some (p.2.2.1.1) ∧ w.cell? ⟨b, o + i * 4 + 3, none⟩ = some (.string p.2.2.2) ∧ NumAt w p.2.2.1.1 p.2.2.1.2 := by
  obtain ⟨b, o, cap, e, hc⟩ := row_get 4 sectionC sectionC_len (by omega) h.1 hp
  exact ⟨b, o, cap, e, hc 0 _ rfl, hc 1 _ rfl, hc 2 _ rfl, hc 3 _ rfl, h.2 p (List.mem_of_getElem? hp)⟩
/-- A row of its own, whose lists have blocks of their own. -/
structure SectionO (w : World) (lo hi : Nat) (v : Value) (ps : List SectionE) : Prop where
  row : RowO w lo hi 46 4 v ps.length (ps.flatMap sectionC)
  inn : ∀ (i : Nat) (p : SectionE), ps[i]? = some p → NumO w lo hi p.2.2.1.1 p.2.2.1.2
  apart : ∀ (i j : Nat) (p p' : SectionE), i ≠ j → ps[i]? = some p → ps[j]? = some p' → Ap p.2.2.1.1 p'.2.2.1.1
theorem SectionO.but {w w' : World} {lo hi lo' hi' : Nat} {v : Value} {rs : List SectionE} (h : SectionO w lo hi v rs) (k : But lo' hi' w w') (ho : hi ≤ lo' ∨ hi' ≤ lo) : SectionO w' lo hi v rs := ⟨RowO.but h.row k ho, fun i r hr => (h.inn i r hr).but k ho, h.apart⟩
theorem SectionO.kept {w w' : World} {lo hi : Nat} {v : Value} {rs : List SectionE} (h : SectionO w lo hi v rs) (k : Kept w w') : SectionO w' lo hi v rs := h.but k (by omega)
theorem SectionO.mono {w : World} {lo hi lo' hi' : Nat} {v : Value} {rs : List SectionE} (h : SectionO w lo hi v rs) (h1 : lo' ≤ lo) (h2 : hi ≤ hi') : SectionO w lo' hi' v rs := ⟨RowO.mono h.row h1 h2, fun i r hr => (h.inn i r hr).mono h1 h2, h.apart⟩
theorem SectionO.low {w : World} {lo hi : Nat} {v : Value} {rs : List SectionE} (h : SectionO w lo hi v rs) : SectionO w lo w.heap.size v rs := ⟨RowO.low h.row, fun i r hr => (h.inn i r hr).low, h.apart⟩
theorem SectionO.at {w : World} {lo hi : Nat} {v : Value} {rs : List SectionE} (h : SectionO w lo hi v rs) : SectionAt w v rs := ⟨own_row h.row.1, fun r hr => by
  obtain ⟨i, hi⟩ := List.mem_iff_getElem?.1 hr
  exact (h.inn i r hi).at⟩
theorem SectionO.form {w : World} {lo hi : Nat} {v : Value} {rs : List SectionE} (h : SectionO w lo hi v rs) : ∃ ao cap, v = .slice ao rs.length cap := by
  obtain ⟨ao, cap, e, _⟩ := own_form h.row.1
  exact ⟨ao, cap, e⟩

end Go.Proofs.YtapfafibhjpkdaaDoor
