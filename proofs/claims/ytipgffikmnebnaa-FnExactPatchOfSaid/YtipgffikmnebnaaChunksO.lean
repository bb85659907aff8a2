/-
  Lists of chunks that came in, opened.
-/
import Derived.Test.YtipgffikmnebnaaChunks
import Derived.Test.YtipgffikmnebnaaChunkO
namespace Go.Proofs.Ytipgffikmnebnaa
open Go.ChangeShapes Go.WideShapes Go.ChangeAt Go.RowKit

set_option maxRecDepth 100000
set_option linter.unusedVariables false
set_option linter.unusedSimpArgs false
section
open Go.Deep
variable {H : Type} {enc : TypeId × Value → H} {w : World} {base : Nat} {spare : Nat → Bool} {held : Bool}
theorem open_chunks {v : Value} {d : DataW H} {ps : List MemPlace} {r : Reach} {b0 : Nat} (hval : Value.okWide Try.prog w r b0 80 v) (hd : DataW.Trod enc Try.prog w base spare held 80 v d ps) : ∃ l : List ChunkD, ChunksAt w v l ∧ ChunksFit l ∧ l.length ≤ maxLen ∧ ∀ p ∈ l, -9223372036854775808 ≤ p.1 ∧ p.1 ≤ 9223372036854775807 := by
  obtain ⟨ts, h, hf, hl, hr⟩ := open_chunkS hval hd
  exact ⟨ts.map stripChunk, ⟨ts, h, rfl⟩, chunks_fit' hf, by simpa using hl, fun p hp => by obtain ⟨q, hq, rfl⟩ := List.mem_map.1 hp; exact hr q hq⟩
end

end Go.Proofs.Ytipgffikmnebnaa
