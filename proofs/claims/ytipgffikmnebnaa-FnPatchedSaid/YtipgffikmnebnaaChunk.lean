/-
  Chunks as plain data, and how lists of them lie in memory.
-/
import Derived.Test.YtipgffikmnebnaaRows
import Derived.Test.YtipgffikmnebnaaBytM
namespace Go.Proofs.Ytipgffikmnebnaa
open Go.ChangeShapes Go.WideShapes Go.ChangeAt Go.RowKit

abbrev ChunkE := Int × Int × (Value × List BytD)
abbrev ChunkD := Int × Int × List BytD
def chunkC (p : ChunkE) : List Value := [.int .i64 p.1, .int .i64 p.2.1, p.2.2.1]
theorem chunkC_len (p : ChunkE) : (chunkC p).length = 3 := rfl
def stripChunk (p : ChunkE) : ChunkD := (p.1, p.2.1, p.2.2.2)
def chunk0 : ChunkE := (0, 0, (.slice none 0 0, []))
def ChunkAt (w : World) (v : Value) (ps : List ChunkE) : Prop := RowAt w v ps.length (ps.flatMap chunkC) ∧ ∀ p ∈ ps, BytAt w p.2.2.1 p.2.2.2
theorem ChunkAt.kept {w w' : World} {v : Value} {ps : List ChunkE} (h : ChunkAt w v ps) (k : Kept w w') : ChunkAt w' v ps := ⟨RowAt.kept h.1 k, fun p hp => (h.2 p hp).kept k⟩
theorem chunk_get {w : World} {v : Value} {ps : List ChunkE} (h : ChunkAt w v ps) {i : Nat} {p : ChunkE} (hp : ps[i]? = some p) :
    ∃ b o cap, v = .slice (some ⟨b, o, none⟩) ps.length cap ∧ w.cell? ⟨b, o + i * 3, none⟩ = some (.int .i64 p.1) ∧ w.cell? ⟨b, o + i * 3 + 1, none⟩ = some (.int .i64 p.2.1) ∧ w.cell? ⟨b, o + i * 3 + 2, none⟩ = some (p.2.2.1) ∧ BytAt w p.2.2.1 p.2.2.2 := by
  obtain ⟨b, o, cap, e, hc⟩ := row_get 3 chunkC chunkC_len (by omega) h.1 hp
  exact ⟨b, o, cap, e, hc 0 _ rfl, hc 1 _ rfl, hc 2 _ rfl, h.2 p (List.mem_of_getElem? hp)⟩
/-- A row of its own, whose lists have blocks of their own. -/
structure ChunkO (w : World) (lo hi : Nat) (v : Value) (ps : List ChunkE) : Prop where
  row : RowO w lo hi 108 3 v ps.length (ps.flatMap chunkC)
  inn : ∀ (i : Nat) (p : ChunkE), ps[i]? = some p → BytO w lo hi p.2.2.1 p.2.2.2
  apart : ∀ (i j : Nat) (p p' : ChunkE), i ≠ j → ps[i]? = some p → ps[j]? = some p' → Ap p.2.2.1 p'.2.2.1
theorem ChunkO.but {w w' : World} {lo hi lo' hi' : Nat} {v : Value} {rs : List ChunkE} (h : ChunkO w lo hi v rs) (k : But lo' hi' w w') (ho : hi ≤ lo' ∨ hi' ≤ lo) : ChunkO w' lo hi v rs := ⟨RowO.but h.row k ho, fun i r hr => (h.inn i r hr).but k ho, h.apart⟩
theorem ChunkO.kept {w w' : World} {lo hi : Nat} {v : Value} {rs : List ChunkE} (h : ChunkO w lo hi v rs) (k : Kept w w') : ChunkO w' lo hi v rs := h.but k (by omega)
theorem ChunkO.mono {w : World} {lo hi lo' hi' : Nat} {v : Value} {rs : List ChunkE} (h : ChunkO w lo hi v rs) (h1 : lo' ≤ lo) (h2 : hi ≤ hi') : ChunkO w lo' hi' v rs := ⟨RowO.mono h.row h1 h2, fun i r hr => (h.inn i r hr).mono h1 h2, h.apart⟩
theorem ChunkO.low {w : World} {lo hi : Nat} {v : Value} {rs : List ChunkE} (h : ChunkO w lo hi v rs) : ChunkO w lo w.heap.size v rs := ⟨RowO.low h.row, fun i r hr => (h.inn i r hr).low, h.apart⟩
theorem ChunkO.at {w : World} {lo hi : Nat} {v : Value} {rs : List ChunkE} (h : ChunkO w lo hi v rs) : ChunkAt w v rs := ⟨own_row h.row.1, fun r hr => by
  obtain ⟨i, hi⟩ := List.mem_iff_getElem?.1 hr
  exact (h.inn i r hi).at⟩
theorem ChunkO.form {w : World} {lo hi : Nat} {v : Value} {rs : List ChunkE} (h : ChunkO w lo hi v rs) : ∃ ao cap, v = .slice ao rs.length cap := by
  obtain ⟨ao, cap, e, _⟩ := own_form h.row.1
  exact ⟨ao, cap, e⟩

end Go.Proofs.Ytipgffikmnebnaa
