/-
  Binds as plain data, and how lists of them lie in memory.
-/
import Derived.Test.YthkfpbknfjapaaaRows
import Derived.Test.YthkfpbknfjapaaaNumM
namespace Go.Proofs.Ythkfpbknfjapaaa
open Go.ChangeShapes Go.WideShapes Go.ChangeAt Go.RowKit

abbrev BindE := ByteArray × (Value × List NumD)
abbrev BindD := ByteArray × List NumD
def bindC (p : BindE) : List Value := [.string p.1, p.2.1]
theorem bindC_len (p : BindE) : (bindC p).length = 2 := rfl
def stripBind (p : BindE) : BindD := (p.1, p.2.2)
def bind0 : BindE := (ByteArray.empty, (.slice none 0 0, []))
def BindAt (w : World) (v : Value) (ps : List BindE) : Prop := RowAt w v ps.length (ps.flatMap bindC) ∧ ∀ p ∈ ps, NumAt w p.2.1 p.2.2
theorem BindAt.kept {w w' : World} {v : Value} {ps : List BindE} (h : BindAt w v ps) (k : Kept w w') : BindAt w' v ps := ⟨RowAt.kept h.1 k, fun p hp => (h.2 p hp).kept k⟩
theorem bind_get {w : World} {v : Value} {ps : List BindE} (h : BindAt w v ps) {i : Nat} {p : BindE} (hp : ps[i]? = some p) :
    ∃ b o cap, v = .slice (some ⟨b, o, none⟩) ps.length cap ∧ w.cell? ⟨b, o + i * 2, none⟩ = some (.string p.1) ∧ w.cell? ⟨b, o + i * 2 + 1, none⟩ = some (p.2.1) ∧ NumAt w p.2.1 p.2.2 := by
  obtain ⟨b, o, cap, e, hc⟩ := row_get 2 bindC bindC_len (by omega) h.1 hp
  exact ⟨b, o, cap, e, hc 0 _ rfl, hc 1 _ rfl, h.2 p (List.mem_of_getElem? hp)⟩
/-- A row of its own, whose lists have blocks of their own. -/
structure BindO (w : World) (lo hi : Nat) (v : Value) (ps : List BindE) : Prop where
  row : RowO w lo hi 85 2 v ps.length (ps.flatMap bindC)
  inn : ∀ (i : Nat) (p : BindE), ps[i]? = some p → NumO w lo hi p.2.1 p.2.2
  apart : ∀ (i j : Nat) (p p' : BindE), i ≠ j → ps[i]? = some p → ps[j]? = some p' → Ap p.2.1 p'.2.1
theorem BindO.but {w w' : World} {lo hi lo' hi' : Nat} {v : Value} {rs : List BindE} (h : BindO w lo hi v rs) (k : But lo' hi' w w') (ho : hi ≤ lo' ∨ hi' ≤ lo) : BindO w' lo hi v rs := ⟨RowO.but h.row k ho, fun i r hr => (h.inn i r hr).but k ho, h.apart⟩
theorem BindO.kept {w w' : World} {lo hi : Nat} {v : Value} {rs : List BindE} (h : BindO w lo hi v rs) (k : Kept w w') : BindO w' lo hi v rs := h.but k (by omega)
theorem BindO.mono {w : World} {lo hi lo' hi' : Nat} {v : Value} {rs : List BindE} (h : BindO w lo hi v rs) (h1 : lo' ≤ lo) (h2 : hi ≤ hi') : BindO w lo' hi' v rs := ⟨RowO.mono h.row h1 h2, fun i r hr => (h.inn i r hr).mono h1 h2, h.apart⟩
theorem BindO.low {w : World} {lo hi : Nat} {v : Value} {rs : List BindE} (h : BindO w lo hi v rs) : BindO w lo w.heap.size v rs := ⟨RowO.low h.row, fun i r hr => (h.inn i r hr).low, h.apart⟩
theorem BindO.at {w : World} {lo hi : Nat} {v : Value} {rs : List BindE} (h : BindO w lo hi v rs) : BindAt w v rs := ⟨own_row h.row.1, fun r hr => by
  obtain ⟨i, hi⟩ := List.mem_iff_getElem?.1 hr
  exact (h.inn i r hi).at⟩
theorem BindO.form {w : World} {lo hi : Nat} {v : Value} {rs : List BindE} (h : BindO w lo hi v rs) : ∃ ao cap, v = .slice ao rs.length cap := by
  obtain ⟨ao, cap, e, _⟩ := own_form h.row.1
  exact ⟨ao, cap, e⟩

end Go.Proofs.Ythkfpbknfjapaaa
