/-
  Music that came in, opened.
-/
import Derived.Test.YtapfafibhjpkdaaDoorMusic
import Derived.Test.YtapfafibhjpkdaaDoorText
namespace Go.Proofs.YtapfafibhjpkdaaDoor
open Go.ChangeShapes Go.WideShapes Go.ChangeAt Go.RowKit
open Go.Deep
section
variable {H : Type} {enc : TypeId × Value → H} {w : World} {base : Nat} {spare : Nat → Bool} {held : Bool}
set_option maxRecDepth 100000
theorem open_music {fuel : Nat} {cs : List Value} {x : DataW H × List MemPlace} (h : DataW.trod enc Tryd.prog w base spare held fuel 24 cs = some x) : ∃ p : MusicD, cs = musicC p ∧ p.1.size ≤ maxLen ∧ p.2.2.size ≤ maxLen := by
  obtain ⟨xs, n, _, rfl, hl, hlen, hf⟩ := DataW.trod_struct Tryd.underlying24 h
  match xs, hlen with
  | [y0, y1, y2], _ =>
    have h0 : DataW.trod enc Tryd.prog w base spare held n 9 ((cs.drop 0).take (Tryd.prog.cellsOf 9)) = some y0 := by simpa using hf 0 _ rfl
    obtain ⟨a0, e0, _, s0⟩ := DataW.trod_string Tryd.underlying9 h0
    have h1 : DataW.trod enc Tryd.prog w base spare held n 3 ((cs.drop 1).take (Tryd.prog.cellsOf 3)) = some y1 := by simpa using hf 1 _ rfl
    obtain ⟨a1, e1, _, _⟩ := DataW.trod_int Tryd.underlying3 h1
    have h2 : DataW.trod enc Tryd.prog w base spare held n 9 ((cs.drop 2).take (Tryd.prog.cellsOf 9)) = some y2 := by simpa using hf 2 _ rfl
    obtain ⟨a2, e2, _, s2⟩ := DataW.trod_string Tryd.underlying9 h2
    rw [show Tryd.prog.cellsOf 24 = 3 by kernel_rfl] at hl
    match cs, hl with
    | [c0, c1, c2], _ =>
      simp [show Tryd.prog.cellsOf 3 = 1 by kernel_rfl, show Tryd.prog.cellsOf 9 = 1 by kernel_rfl] at e0 e1 e2
      subst e0 e1 e2
      exact ⟨(a0, a1, a2), rfl, s0, s2⟩
theorem open_musicV {v : Value} {d : DataW H} {ps : List MemPlace} {r : Reach} {b0 : Nat} (hval : Value.okWide Tryd.prog w r b0 24 v) (hd : DataW.Trod enc Tryd.prog w base spare held 24 v d ps) : ∃ p : MusicD, v = .agg (musicC p).toArray ∧ p.1.size ≤ maxLen ∧ p.2.2.size ≤ maxLen := by
  obtain ⟨cs, rfl, hsz⟩ := okWide_struct Tryd.underlying24 hval
  obtain ⟨l⟩ := cs
  obtain ⟨fuel, hf⟩ := hd
  obtain ⟨p, hp, hq⟩ := open_music hf
  refine ⟨p, ?_, hq⟩
  simp only [Value.cells] at hp
  rw [← hp]
end

end Go.Proofs.YtapfafibhjpkdaaDoor
