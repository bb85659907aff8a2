/-
  Chunks that came in, opened.
-/
import Derived.Test.YtipgffikmnebnaaChunkF
import Derived.Test.YtipgffikmnebnaaText
namespace Go.Proofs.Ytipgffikmnebnaa
open Go.ChangeShapes Go.WideShapes Go.ChangeAt Go.RowKit
section
open Go.Deep
variable {H : Type} {enc : TypeId × Value → H} {w : World} {base : Nat} {spare : Nat → Bool} {held : Bool}
set_option maxRecDepth 100000
theorem open_chunk {fuel : Nat} {cs : List Value} {x : DataW H × List MemPlace} (h : DataW.trod enc Try.prog w base spare held fuel 136 cs = some x) : ∃ p : ChunkE, cs = chunkC p ∧ BytAt w p.2.2.1 p.2.2.2 ∧ p.2.2.2.length ≤ maxLen ∧ (-9223372036854775808 ≤ p.1 ∧ p.1 ≤ 9223372036854775807) := by
  obtain ⟨xs, n, _, rfl, hl, hlen, hf⟩ := DataW.trod_struct Try.underlying136 h
  match xs, hlen with
  | [y0, y1, y2], _ =>
    have h0 : DataW.trod enc Try.prog w base spare held n 3 ((cs.drop 0).take (Try.prog.cellsOf 3)) = some y0 := by simpa using hf 0 _ rfl
    obtain ⟨a0, e0, _, s0⟩ := DataW.trod_int Try.underlying3 h0
    have h1 : DataW.trod enc Try.prog w base spare held n 3 ((cs.drop 1).take (Try.prog.cellsOf 3)) = some y1 := by simpa using hf 1 _ rfl
    obtain ⟨a1, e1, _, _⟩ := DataW.trod_int Try.underlying3 h1
    have h2 : DataW.trod enc Try.prog w base spare held n 22 ((cs.drop 2).take (Try.prog.cellsOf 22)) = some y2 := by simpa using hf 2 _ rfl
    obtain ⟨a2, l2, e2, r2, _, m2⟩ := open_rows (α := BytD) Try.underlying22 (show Try.prog.cellsOf 5 = 1 by kernel_rfl) (by omega) bytC bytC_len (fun _ => True) (fun _ _ _ h => open_byt h) h2
    rw [show Try.prog.cellsOf 136 = 3 by kernel_rfl] at hl
    match cs, hl with
    | [c0, c1, c2], _ =>
      simp [show Try.prog.cellsOf 3 = 1 by kernel_rfl, show Try.prog.cellsOf 22 = 1 by kernel_rfl] at e0 e1 e2
      subst e0 e1 e2
      exact ⟨(a0, a1, (c2, l2)), rfl, r2, m2, by simp [Lit.wf, IntKind.min, IntKind.max, IntKind.signed, IntKind.bits] at s0; omega⟩

theorem open_chunkV {v : Value} {d : DataW H} {ps : List MemPlace} {r : Reach} {b0 : Nat} (hval : Value.okWide Try.prog w r b0 136 v) (hd : DataW.Trod enc Try.prog w base spare held 136 v d ps) : ∃ p : ChunkE, v = .agg (chunkC p).toArray ∧ BytAt w p.2.2.1 p.2.2.2 ∧ p.2.2.2.length ≤ maxLen ∧ (-9223372036854775808 ≤ p.1 ∧ p.1 ≤ 9223372036854775807) := by
  obtain ⟨cs, rfl, hsz⟩ := okWide_struct Try.underlying136 hval
  obtain ⟨l⟩ := cs
  obtain ⟨fuel, hf⟩ := hd
  obtain ⟨p, hp, hq⟩ := open_chunk hf
  refine ⟨p, ?_, hq⟩
  simp only [Value.cells] at hp
  rw [← hp]

theorem open_chunkS {v : Value} {d : DataW H} {ps : List MemPlace} {r : Reach} {b0 : Nat} (hval : Value.okWide Try.prog w r b0 80 v) (hd : DataW.Trod enc Try.prog w base spare held 80 v d ps) : ∃ l : List ChunkE, ChunkAt w v l ∧ ChunkFit l ∧ l.length ≤ maxLen ∧ ∀ p ∈ l, -9223372036854775808 ≤ p.1 ∧ p.1 ≤ 9223372036854775807 := by
  obtain ⟨ao, len, cap, rfl⟩ := okWide_slice Try.underlying80 hval
  obtain ⟨fuel, hf⟩ := hd
  obtain ⟨u, l, e, hr, hq, hl⟩ := open_rows (α := ChunkE) Try.underlying80 (show Try.prog.cellsOf 136 = 3 by kernel_rfl) (by omega) chunkC chunkC_len (fun p => BytAt w p.2.2.1 p.2.2.2 ∧ p.2.2.2.length ≤ maxLen ∧ (-9223372036854775808 ≤ p.1 ∧ p.1 ≤ 9223372036854775807)) (fun _ _ _ h => open_chunk h) hf
  simp [Value.cells] at e
  subst e
  refine ⟨l, ⟨hr, fun p hp => (hq p hp).1⟩, fun p hp => ?_, hl, fun p hp => (hq p hp).2.2⟩
  have := hq p hp
  unfold maxLen at this
  exact by omega
end

end Go.Proofs.Ytipgffikmnebnaa
