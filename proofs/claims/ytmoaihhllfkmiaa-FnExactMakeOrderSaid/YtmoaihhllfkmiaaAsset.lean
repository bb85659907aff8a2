/-
  Assets as plain data, and how lists of them lie in memory.
-/
import Derived.Test.YtmoaihhllfkmiaaRows
import Derived.Test.YtmoaihhllfkmiaaTxtM
import Derived.Test.YtmoaihhllfkmiaaBytM
namespace Go.Proofs.Ytmoaihhllfkmiaa
open Go.ChangeShapes Go.WideShapes Go.ChangeAt Go.RowKit

abbrev AssetE := ByteArray × (Value × List TxtD) × (Value × List BytD)
abbrev AssetD := ByteArray × List TxtD × List BytD
def assetC (p : AssetE) : List Value := [.string p.1, p.2.1.1, p.2.2.1]
theorem assetC_len (p : AssetE) : (assetC p).length = 3 := rfl
def stripA (p : AssetE) : AssetD := (p.1, p.2.1.2, p.2.2.2)
def asset0 : AssetE := (ByteArray.empty, (.slice none 0 0, []), (.slice none 0 0, []))
def AssetAt (w : World) (v : Value) (ps : List AssetE) : Prop := RowAt w v ps.length (ps.flatMap assetC) ∧ ∀ p ∈ ps, TxtAt w p.2.1.1 p.2.1.2 ∧ BytAt w p.2.2.1 p.2.2.2
theorem AssetAt.kept {w w' : World} {v : Value} {ps : List AssetE} (h : AssetAt w v ps) (k : Kept w w') : AssetAt w' v ps := ⟨RowAt.kept h.1 k, fun p hp => ⟨(h.2 p hp).1.kept k, (h.2 p hp).2.kept k⟩⟩
theorem asset_get {w : World} {v : Value} {ps : List AssetE} (h : AssetAt w v ps) {i : Nat} {p : AssetE} (hp : ps[i]? = some p) :
    ∃ b o cap, v = .slice (some ⟨b, o, none⟩) ps.length cap ∧ w.cell? ⟨b, o + i * 3, none⟩ = some (.string p.1) ∧ w.cell? ⟨b, o + i * 3 + 1, none⟩ = some (p.2.1.1) ∧ w.cell? ⟨b, o + i * 3 + 2, none⟩ = some (p.2.2.1) ∧ TxtAt w p.2.1.1 p.2.1.2 ∧ BytAt w p.2.2.1 p.2.2.2 := by
  obtain ⟨b, o, cap, e, hc⟩ := row_get 3 assetC assetC_len (by omega) h.1 hp
  exact ⟨b, o, cap, e, hc 0 _ rfl, hc 1 _ rfl, hc 2 _ rfl, h.2 p (List.mem_of_getElem? hp)⟩
/-- A row of its own, whose lists have blocks of their own. -/
structure AssetO (w : World) (lo hi : Nat) (v : Value) (ps : List AssetE) : Prop where
  row : RowO w lo hi 30 3 v ps.length (ps.flatMap assetC)
  innT : ∀ (i : Nat) (p : AssetE), ps[i]? = some p → TxtO w lo hi p.2.1.1 p.2.1.2
  innB : ∀ (i : Nat) (p : AssetE), ps[i]? = some p → BytO w lo hi p.2.2.1 p.2.2.2
  apT : ∀ (i j : Nat) (p p' : AssetE), i ≠ j → ps[i]? = some p → ps[j]? = some p' → Ap p.2.1.1 p'.2.1.1
  apB : ∀ (i j : Nat) (p p' : AssetE), i ≠ j → ps[i]? = some p → ps[j]? = some p' → Ap p.2.2.1 p'.2.2.1
theorem AssetO.but {w w' : World} {lo hi lo' hi' : Nat} {v : Value} {rs : List AssetE} (h : AssetO w lo hi v rs) (k : But lo' hi' w w') (ho : hi ≤ lo' ∨ hi' ≤ lo) : AssetO w' lo hi v rs := ⟨RowO.but h.row k ho, fun i r hr => (h.innT i r hr).but k ho, fun i r hr => (h.innB i r hr).but k ho, h.apT, h.apB⟩
theorem AssetO.kept {w w' : World} {lo hi : Nat} {v : Value} {rs : List AssetE} (h : AssetO w lo hi v rs) (k : Kept w w') : AssetO w' lo hi v rs := h.but k (by omega)
theorem AssetO.mono {w : World} {lo hi lo' hi' : Nat} {v : Value} {rs : List AssetE} (h : AssetO w lo hi v rs) (h1 : lo' ≤ lo) (h2 : hi ≤ hi') : AssetO w lo' hi' v rs := ⟨RowO.mono h.row h1 h2, fun i r hr => (h.innT i r hr).mono h1 h2, fun i r hr => (h.innB i r hr).mono h1 h2, h.apT, h.apB⟩
theorem AssetO.low {w : World} {lo hi : Nat} {v : Value} {rs : List AssetE} (h : AssetO w lo hi v rs) : AssetO w lo w.heap.size v rs := ⟨RowO.low h.row, fun i r hr => (h.innT i r hr).low, fun i r hr => (h.innB i r hr).low, h.apT, h.apB⟩
theorem AssetO.at {w : World} {lo hi : Nat} {v : Value} {rs : List AssetE} (h : AssetO w lo hi v rs) : AssetAt w v rs := ⟨own_row h.row.1, fun r hr => by
  obtain ⟨i, hi⟩ := List.mem_iff_getElem?.1 hr
  exact ⟨(h.innT i r hi).at, (h.innB i r hi).at⟩⟩
theorem AssetO.form {w : World} {lo hi : Nat} {v : Value} {rs : List AssetE} (h : AssetO w lo hi v rs) : ∃ ao cap, v = .slice ao rs.length cap := by
  obtain ⟨ao, cap, e, _⟩ := own_form h.row.1
  exact ⟨ao, cap, e⟩

end Go.Proofs.Ytmoaihhllfkmiaa
