/-
  Tracks as plain data, and how lists of them lie in memory.
-/
import Derived.Test.YtpnplfngglfpoaaRows
import Derived.Test.YtpnplfngglfpoaaKey
namespace Go.Proofs.Ytpnplfngglfpoaa
open Go.ChangeShapes Go.WideShapes Go.ChangeAt Go.RowKit

abbrev TrackE := ByteArray × (Value × List KeyD)
abbrev TrackD := ByteArray × List KeyD
def trackC (p : TrackE) : List Value := [.string p.1, p.2.1]
theorem trackC_len (p : TrackE) : (trackC p).length = 2 := rfl
def stripTrack (p : TrackE) : TrackD := (p.1, p.2.2)
def track0 : TrackE := (ByteArray.empty, (.slice none 0 0, []))
def TrackAt (w : World) (v : Value) (ps : List TrackE) : Prop := RowAt w v ps.length (ps.flatMap trackC) ∧ ∀ p ∈ ps, KeyAt w p.2.1 p.2.2
theorem TrackAt.kept {w w' : World} {v : Value} {ps : List TrackE} (h : TrackAt w v ps) (k : Kept w w') : TrackAt w' v ps := ⟨RowAt.kept h.1 k, fun p hp => (h.2 p hp).kept k⟩
theorem track_get {w : World} {v : Value} {ps : List TrackE} (h : TrackAt w v ps) {i : Nat} {p : TrackE} (hp : ps[i]? = some p) :
    ∃ b o cap, v = .slice (some ⟨b, o, none⟩) ps.length cap ∧ w.cell? ⟨b, o + i * 2, none⟩ = some (.string p.1) ∧ w.cell? ⟨b, o + i * 2 + 1, none⟩ = some (p.2.1) ∧ KeyAt w p.2.1 p.2.2 := by
  obtain ⟨b, o, cap, e, hc⟩ := row_get 2 trackC trackC_len (by omega) h.1 hp
  exact ⟨b, o, cap, e, hc 0 _ rfl, hc 1 _ rfl, h.2 p (List.mem_of_getElem? hp)⟩
/-- A row of its own, whose lists have blocks of their own. -/
structure TrackO (w : World) (lo hi : Nat) (v : Value) (ps : List TrackE) : Prop where
  row : RowO w lo hi 95 2 v ps.length (ps.flatMap trackC)
  inn : ∀ (i : Nat) (p : TrackE), ps[i]? = some p → KeyO w lo hi p.2.1 p.2.2
  apart : ∀ (i j : Nat) (p p' : TrackE), i ≠ j → ps[i]? = some p → ps[j]? = some p' → Ap p.2.1 p'.2.1
theorem TrackO.but {w w' : World} {lo hi lo' hi' : Nat} {v : Value} {rs : List TrackE} (h : TrackO w lo hi v rs) (k : But lo' hi' w w') (ho : hi ≤ lo' ∨ hi' ≤ lo) : TrackO w' lo hi v rs := ⟨RowO.but h.row k ho, fun i r hr => (h.inn i r hr).but k ho, h.apart⟩
theorem TrackO.kept {w w' : World} {lo hi : Nat} {v : Value} {rs : List TrackE} (h : TrackO w lo hi v rs) (k : Kept w w') : TrackO w' lo hi v rs := h.but k (by omega)
theorem TrackO.mono {w : World} {lo hi lo' hi' : Nat} {v : Value} {rs : List TrackE} (h : TrackO w lo hi v rs) (h1 : lo' ≤ lo) (h2 : hi ≤ hi') : TrackO w lo' hi' v rs := ⟨RowO.mono h.row h1 h2, fun i r hr => (h.inn i r hr).mono h1 h2, h.apart⟩
theorem TrackO.low {w : World} {lo hi : Nat} {v : Value} {rs : List TrackE} (h : TrackO w lo hi v rs) : TrackO w lo w.heap.size v rs := ⟨RowO.low h.row, fun i r hr => (h.inn i r hr).low, h.apart⟩
theorem TrackO.at {w : World} {lo hi : Nat} {v : Value} {rs : List TrackE} (h : TrackO w lo hi v rs) : TrackAt w v rs := ⟨own_row h.row.1, fun r hr => by
  obtain ⟨i, hi⟩ := List.mem_iff_getElem?.1 hr
  exact (h.inn i r hi).at⟩
theorem TrackO.form {w : World} {lo hi : Nat} {v : Value} {rs : List TrackE} (h : TrackO w lo hi v rs) : ∃ ao cap, v = .slice ao rs.length cap := by
  obtain ⟨ao, cap, e, _⟩ := own_form h.row.1
  exact ⟨ao, cap, e⟩

end Go.Proofs.Ytpnplfngglfpoaa
