/-
  Entries as plain data, and how lists of them lie in memory.
-/
import Derived.Test.YtgbgnmjgnfocmaaRows
import Derived.Test.YtgbgnmjgnfocmaaTxtM
namespace Go.Proofs.Ytgbgnmjgnfocmaa
open Go.ChangeShapes Go.WideShapes Go.ChangeAt Go.RowKit

abbrev EntryE := ByteArray × (Value × List TxtD) × Bool
abbrev EntryD := ByteArray × List TxtD × Bool
def entryC (p : EntryE) : List Value := [.string p.1, p.2.1.1, .bool p.2.2]
theorem entryC_len (p : EntryE) : (entryC p).length = 3 := rfl
def stripEntry (p : EntryE) : EntryD := (p.1, p.2.1.2, p.2.2)
def entry0 : EntryE := (ByteArray.empty, (.slice none 0 0, []), false)
def EntryAt (w : World) (v : Value) (ps : List EntryE) : Prop := RowAt w v ps.length (ps.flatMap entryC) ∧ ∀ p ∈ ps, TxtAt w p.2.1.1 p.2.1.2
theorem EntryAt.kept {w w' : World} {v : Value} {ps : List EntryE} (h : EntryAt w v ps) (k : Kept w w') : EntryAt w' v ps := ⟨RowAt.kept h.1 k, fun p hp => (h.2 p hp).kept k⟩
theorem entry_get {w : World} {v : Value} {ps : List EntryE} (h : EntryAt w v ps) {i : Nat} {p : EntryE} (hp : ps[i]? = some p) :
    ∃ b o cap, v = .slice (some ⟨b, o, none⟩) ps.length cap ∧ w.cell? ⟨b, o + i * 3, none⟩ = some (.string p.1) ∧ w.cell? ⟨b, o + i * 3 + 1, none⟩ = some (p.2.1.1) ∧ w.cell? ⟨b, o + i * 3 + 2, none⟩ = some (.bool p.2.2) ∧ TxtAt w p.2.1.1 p.2.1.2 := by
  obtain ⟨b, o, cap, e, hc⟩ := row_get 3 entryC entryC_len (by omega) h.1 hp
  exact ⟨b, o, cap, e, hc 0 _ rfl, hc 1 _ rfl, hc 2 _ rfl, h.2 p (List.mem_of_getElem? hp)⟩
/-- A row of its own, whose lists have blocks of their own. -/
structure EntryO (w : World) (lo hi : Nat) (v : Value) (ps : List EntryE) : Prop where
  row : RowO w lo hi 38 3 v ps.length (ps.flatMap entryC)
  inn : ∀ (i : Nat) (p : EntryE), ps[i]? = some p → TxtO w lo hi p.2.1.1 p.2.1.2
  apart : ∀ (i j : Nat) (p p' : EntryE), i ≠ j → ps[i]? = some p → ps[j]? = some p' → Ap p.2.1.1 p'.2.1.1
theorem EntryO.but {w w' : World} {lo hi lo' hi' : Nat} {v : Value} {rs : List EntryE} (h : EntryO w lo hi v rs) (k : But lo' hi' w w') (ho : hi ≤ lo' ∨ hi' ≤ lo) : EntryO w' lo hi v rs := ⟨RowO.but h.row k ho, fun i r hr => (h.inn i r hr).but k ho, h.apart⟩
theorem EntryO.kept {w w' : World} {lo hi : Nat} {v : Value} {rs : List EntryE} (h : EntryO w lo hi v rs) (k : Kept w w') : EntryO w' lo hi v rs := h.but k (by omega)
theorem EntryO.mono {w : World} {lo hi lo' hi' : Nat} {v : Value} {rs : List EntryE} (h : EntryO w lo hi v rs) (h1 : lo' ≤ lo) (h2 : hi ≤ hi') : EntryO w lo' hi' v rs := ⟨RowO.mono h.row h1 h2, fun i r hr => (h.inn i r hr).mono h1 h2, h.apart⟩
theorem EntryO.low {w : World} {lo hi : Nat} {v : Value} {rs : List EntryE} (h : EntryO w lo hi v rs) : EntryO w lo w.heap.size v rs := ⟨RowO.low h.row, fun i r hr => (h.inn i r hr).low, h.apart⟩
theorem EntryO.at {w : World} {lo hi : Nat} {v : Value} {rs : List EntryE} (h : EntryO w lo hi v rs) : EntryAt w v rs := ⟨own_row h.row.1, fun r hr => by
  obtain ⟨i, hi⟩ := List.mem_iff_getElem?.1 hr
  exact (h.inn i r hi).at⟩
theorem EntryO.form {w : World} {lo hi : Nat} {v : Value} {rs : List EntryE} (h : EntryO w lo hi v rs) : ∃ ao cap, v = .slice ao rs.length cap := by
  obtain ⟨ao, cap, e, _⟩ := own_form h.row.1
  exact ⟨ao, cap, e⟩

end Go.Proofs.Ytgbgnmjgnfocmaa
