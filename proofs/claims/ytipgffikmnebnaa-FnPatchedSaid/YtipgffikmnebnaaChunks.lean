/-
  Lists of chunks as plain data.
-/
import Derived.Test.YtipgffikmnebnaaChunkF
import Derived.Test.YtipgffikmnebnaaChunkT
namespace Go.Proofs.Ytipgffikmnebnaa
open Go.ChangeShapes Go.WideShapes Go.ChangeAt Go.RowKit

set_option maxRecDepth 100000
set_option linter.unusedVariables false
set_option linter.unusedSimpArgs false

/-- Lists of them as plain data. -/
def ChunksAt (w : World) (v : Value) (ds : List ChunkD) : Prop := ∃ ts, ChunkAt w v ts ∧ ts.map stripChunk = ds
def ChunksO (w : World) (lo hi : Nat) (v : Value) (ds : List ChunkD) : Prop := ∃ ts, ChunkO w lo hi v ts ∧ ts.map stripChunk = ds
section
variable {w w' : World} {v : Value} {ds : List ChunkD} {lo hi lo' hi' : Nat}
theorem chunks_len {ts : List ChunkE} (h : ts.map stripChunk = ds) : ts.length = ds.length := by rw [← h]; simp
theorem ChunksAt.kept (h : ChunksAt w v ds) (k : Kept w w') : ChunksAt w' v ds := by obtain ⟨ts, h, e⟩ := h; exact ⟨ts, h.kept k, e⟩
theorem ChunksO.kept (h : ChunksO w lo hi v ds) (k : Kept w w') : ChunksO w' lo hi v ds := by obtain ⟨ts, h, e⟩ := h; exact ⟨ts, h.kept k, e⟩
theorem ChunksO.but (h : ChunksO w lo hi v ds) (k : But lo' hi' w w') (ho : hi ≤ lo' ∨ hi' ≤ lo) : ChunksO w' lo hi v ds := by obtain ⟨ts, h, e⟩ := h; exact ⟨ts, h.but k ho, e⟩
theorem ChunksO.mono (h : ChunksO w lo hi v ds) (h1 : lo' ≤ lo) (h2 : hi ≤ hi') : ChunksO w lo' hi' v ds := by obtain ⟨ts, h, e⟩ := h; exact ⟨ts, h.mono h1 h2, e⟩
theorem ChunksO.low (h : ChunksO w lo hi v ds) : ChunksO w lo w.heap.size v ds := by obtain ⟨ts, h, e⟩ := h; exact ⟨ts, h.low, e⟩
theorem ChunksO.at (h : ChunksO w lo hi v ds) : ChunksAt w v ds := by obtain ⟨ts, h, e⟩ := h; exact ⟨ts, h.at, e⟩
theorem ChunksAt.form (h : ChunksAt w v ds) : ∃ ao cap, v = .slice ao ds.length cap := by
  obtain ⟨ts, h, e⟩ := h
  obtain ⟨ao, cap, he⟩ := row_nil h.1
  exact ⟨ao, cap, by rw [he, chunks_len e]⟩
theorem ChunksO.form (h : ChunksO w lo hi v ds) : ∃ ao cap, v = .slice ao ds.length cap := h.at.form
theorem ChunksAt.get (h : ChunksAt w v ds) {i : Nat} {d : ChunkD} (hd : ds[i]? = some d) : ∃ b o cap s, v = .slice (some ⟨b, o, none⟩) ds.length cap ∧ w.cell? ⟨b, o + i * 3, none⟩ = some (.int .i64 d.1) ∧ w.cell? ⟨b, o + i * 3 + 1, none⟩ = some (.int .i64 d.2.1) ∧ w.cell? ⟨b, o + i * 3 + 2, none⟩ = some s ∧ BytAt w s d.2.2 := by
  obtain ⟨ts, h, e⟩ := h
  subst e
  rw [List.getElem?_map] at hd
  cases hp : ts[i]? with
  | none => rw [hp] at hd; simp at hd
  | some p =>
    rw [hp] at hd
    simp at hd
    subst hd
    obtain ⟨b, o, cap, e, c0, c1, c2, hk⟩ := chunk_get h hp
    exact ⟨b, o, cap, p.2.2.1, by simpa using e, c0, c1, c2, hk⟩
end
def chunksOne (d : ChunkD) : Nat := d.2.2.length
def chunksCost (ds : List ChunkD) : Nat := ds.length + (ds.map chunksOne).sum
theorem chunks_cost {ts : List ChunkE} {ds : List ChunkD} (h : ts.map stripChunk = ds) : chunkCost ts = chunksCost ds := by
  subst h
  unfold chunkCost chunksCost chunkSum
  rw [List.length_map, List.map_map]
  rfl
theorem chunks_one {ds : List ChunkD} {d : ChunkD} (h : d ∈ ds) : chunksOne d ≤ chunksCost ds := by
  have : chunksOne d ≤ (ds.map chunksOne).sum := by
    induction ds with
    | nil => simp at h
    | cons x xs ih =>
      simp at h ⊢
      rcases h with rfl | h
      · omega
      · have := ih h
        omega
  unfold chunksCost
  omega
def ChunksFit (ds : List ChunkD) : Prop := ∀ d ∈ ds, d.2.2.length ≤ 9223372036854775807
theorem chunks_fit {ts : List ChunkE} {ds : List ChunkD} (h : ts.map stripChunk = ds) (hf : ChunksFit ds) : ChunkFit ts := fun p hp => hf (stripChunk p) (by rw [← h]; exact List.mem_map_of_mem hp)
theorem chunks_fit' {ts : List ChunkE} (hf : ChunkFit ts) : ChunksFit (ts.map stripChunk) := fun d hd => by
  obtain ⟨p, hp, rfl⟩ := List.mem_map.1 hd
  exact hf p hp
theorem szChunks (ds : List ChunkD) (v : Value) (left : Int) (w : World) (hv : ChunksAt w v ds) (hl : 0 ≤ left) (hm : left ≤ 1048576) (hn : ds.length ≤ 9223372036854775807) (hs : ChunksFit ds) :
    Calls Try.prog 54 #[v, .int .i64 left] w fun e w' => e = .returned (.int .i64 (leftOf left (chunksCost ds))) ∧ Kept w w' := by
  obtain ⟨ts, h, e⟩ := hv
  have := szChunkS ts v left w h hl hm (by rw [chunks_len e]; exact hn) (chunks_fit e hs)
  rw [chunks_cost e] at this
  exact this
theorem toChunks (ds : List ChunkD) (v : Value) (w : World) (hv : ChunksAt w v ds) (hl : chunksCost ds ≤ 1048576) :
    Calls Try.prog 56 #[v] w fun e w' => ∃ v', e = .returned v' ∧ ChunksO w' w.heap.size w'.heap.size v' ds ∧ Kept w w' := by
  obtain ⟨ts, h, e⟩ := hv
  have h1 : ts.length ≤ 1048576 := by rw [chunks_len e]; unfold chunksCost at hl; omega
  refine (toChunkS ts v w h h1 (fun p hp => ?_)).mono ?_
  · have := chunks_one (ds := ds) (d := stripChunk p) (by rw [← e]; exact List.mem_map_of_mem hp)
    unfold chunksOne stripChunk at this
    dsimp only at this
    omega
  · rintro e' w' ⟨v', ys, rfl, hy, ho, hk⟩
    exact ⟨v', rfl, ⟨ys, ho, hy.trans e⟩, hk⟩
theorem eqChunks (ds : List ChunkD) (v v' : Value) (w : World) (hv : ChunksAt w v ds) (hv' : ChunksAt w v' ds) (hl : chunksCost ds ≤ 9000000000000000000) :
    Calls Try.prog 49 #[v, v'] w fun e w' => e = .returned (.bool true) ∧ Kept w w' := by
  obtain ⟨ts, h, e⟩ := hv
  obtain ⟨us, h', e'⟩ := hv'
  refine eqChunkS ts us v v' w (e.trans e'.symm) h h' (by rw [chunks_len e]; unfold chunksCost at hl; omega) (fun p hp => ?_)
  have := chunks_one (ds := ds) (d := stripChunk p) (by rw [← e]; exact List.mem_map_of_mem hp)
  unfold chunksOne stripChunk at this
  dsimp only at this
  omega

end Go.Proofs.Ytipgffikmnebnaa
