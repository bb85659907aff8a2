/-
  What came in, opened.
-/
import Derived.Test.YtcbenpnnjkgkdaaRows
import Derived.Test.YtcbenpnnjkgkdaaPair
import Derived.Test.YtcbenpnnjkgkdaaText
namespace Go.Proofs.Ytcbenpnnjkgkdaa
open Go.ChangeShapes Go.WideShapes Go.ChangeAt Go.RowKit
open Go.Deep
section
variable {H : Type} {enc : TypeId × Value → H} {w : World} {base : Nat} {spare : Nat → Bool} {held : Bool}
set_option maxRecDepth 100000
theorem open_pair {fuel : Nat} {cs : List Value} {x : DataW H × List MemPlace} (h : DataW.trod enc Try.prog w base spare held fuel 39 cs = some x) : ∃ p : PairD, cs = pairC p := by
  obtain ⟨xs, n, _, rfl, hl, hlen, hf⟩ := DataW.trod_struct Try.underlying39 h
  match xs, hlen with
  | [y0, y1], _ =>
    have h0 : DataW.trod enc Try.prog w base spare held n 3 ((cs.drop 0).take (Try.prog.cellsOf 3)) = some y0 := by simpa using hf 0 _ rfl
    obtain ⟨a0, e0, _, _⟩ := DataW.trod_int Try.underlying3 h0
    have h1 : DataW.trod enc Try.prog w base spare held n 3 ((cs.drop 1).take (Try.prog.cellsOf 3)) = some y1 := by simpa using hf 1 _ rfl
    obtain ⟨a1, e1, _, _⟩ := DataW.trod_int Try.underlying3 h1
    rw [show Try.prog.cellsOf 39 = 2 by kernel_rfl] at hl
    match cs, hl with
    | [c0, c1], _ =>
      simp [show Try.prog.cellsOf 3 = 1 by kernel_rfl] at e0 e1
      subst e0 e1
      exact ⟨(a0, a1), rfl⟩
theorem open_pairV {v : Value} {d : DataW H} {ps : List MemPlace} {r : Reach} {b0 : Nat} (hval : Value.okWide Try.prog w r b0 39 v) (hd : DataW.Trod enc Try.prog w base spare held 39 v d ps) : ∃ p : PairD, v = .agg (pairC p).toArray := by
  obtain ⟨cs, rfl, hsz⟩ := okWide_struct Try.underlying39 hval
  obtain ⟨l⟩ := cs
  obtain ⟨fuel, hf⟩ := hd
  obtain ⟨p, hp⟩ := open_pair hf
  refine ⟨p, ?_⟩
  simp only [Value.cells] at hp
  rw [← hp]
theorem open_pairS {v : Value} {d : DataW H} {ps : List MemPlace} {r : Reach} {b0 : Nat} (hval : Value.okWide Try.prog w r b0 22 v) (hd : DataW.Trod enc Try.prog w base spare held 22 v d ps) : ∃ l : List PairD, PairAt w v l ∧ (∀ p ∈ l, True) ∧ l.length ≤ maxLen := by
  obtain ⟨ao, len, cap, rfl⟩ := okWide_slice Try.underlying22 hval
  obtain ⟨fuel, hf⟩ := hd
  obtain ⟨u, l, e, hr, hq, hl⟩ := open_rows (α := PairD) Try.underlying22 (show Try.prog.cellsOf 39 = 2 by kernel_rfl) (by omega) pairC pairC_len (fun p => True) (fun _ _ _ h => (open_pair h).imp fun _ e => ⟨e, trivial⟩) hf
  simp [Value.cells] at e
  subst e
  exact ⟨l, hr, hq, hl⟩
end

end Go.Proofs.Ytcbenpnnjkgkdaa
