/-
  Sections that came in, opened.
-/
import Derived.Test.YtapfafibhjpkdaaDoorSectionF
import Derived.Test.YtapfafibhjpkdaaDoorText
namespace Go.Proofs.YtapfafibhjpkdaaDoor
open Go.ChangeShapes Go.WideShapes Go.ChangeAt Go.RowKit
section
open Go.Deep
variable {H : Type} {enc : TypeId × Value → H} {w : World} {base : Nat} {spare : Nat → Bool} {held : Bool}
set_option maxRecDepth 100000
theorem open_section {fuel : Nat} {cs : List Value} {x : DataW H × List MemPlace} (h : DataW.trod enc Tryd.prog w base spare held fuel 43 cs = some x) : ∃ p : SectionE, cs = sectionC p ∧ NumAt w p.2.2.1.1 p.2.2.1.2 ∧ p.2.2.1.2.length ≤ maxLen ∧ p.1.size ≤ maxLen ∧ p.2.2.2.size ≤ maxLen := by
  obtain ⟨xs, n, _, rfl, hl, hlen, hf⟩ := DataW.trod_struct Tryd.underlying43 h
  match xs, hlen with
  | [y0, y1, y2, y3], _ =>
    have h0 : DataW.trod enc Tryd.prog w base spare held n 9 ((cs.drop 0).take (Tryd.prog.cellsOf 9)) = some y0 := by simpa using hf 0 _ rfl
    obtain ⟨a0, e0, _, s0⟩ := DataW.trod_string Tryd.underlying9 h0
    have h1 : DataW.trod enc Tryd.prog w base spare held n 3 ((cs.drop 1).take (Tryd.prog.cellsOf 3)) = some y1 := by simpa using hf 1 _ rfl
    obtain ⟨a1, e1, _, _⟩ := DataW.trod_int Tryd.underlying3 h1
    have h2 : DataW.trod enc Tryd.prog w base spare held n 41 ((cs.drop 2).take (Tryd.prog.cellsOf 41)) = some y2 := by simpa using hf 2 _ rfl
    obtain ⟨a2, l2, e2, r2, _, m2⟩ := open_rows (α := NumD) Tryd.underlying41 (show Tryd.prog.cellsOf 3 = 1 by kernel_rfl) (by omega) numC numC_len (fun _ => True) (fun _ _ _ h => open_num h) h2
    have h3 : DataW.trod enc Tryd.prog w base spare held n 9 ((cs.drop 3).take (Tryd.prog.cellsOf 9)) = some y3 := by simpa using hf 3 _ rfl
    obtain ⟨a3, e3, _, s3⟩ := DataW.trod_string Tryd.underlying9 h3
    rw [show Tryd.prog.cellsOf 43 = 4 by kernel_rfl] at hl
    match cs, hl with
    | [c0, c1, c2, c3], _ =>
      simp [show Tryd.prog.cellsOf 3 = 1 by kernel_rfl, show Tryd.prog.cellsOf 9 = 1 by kernel_rfl, show Tryd.prog.cellsOf 41 = 1 by kernel_rfl] at e0 e1 e2 e3
      subst e0 e1 e2 e3
      exact ⟨(a0, a1, (c2, l2), a3), rfl, r2, m2, s0, s3⟩

theorem open_sectionV {v : Value} {d : DataW H} {ps : List MemPlace} {r : Reach} {b0 : Nat} (hval : Value.okWide Tryd.prog w r b0 43 v) (hd : DataW.Trod enc Tryd.prog w base spare held 43 v d ps) : ∃ p : SectionE, v = .agg (sectionC p).toArray ∧ NumAt w p.2.2.1.1 p.2.2.1.2 ∧ p.2.2.1.2.length ≤ maxLen ∧ p.1.size ≤ maxLen ∧ p.2.2.2.size ≤ maxLen := by
  obtain ⟨cs, rfl, hsz⟩ := okWide_struct Tryd.underlying43 hval
  obtain ⟨l⟩ := cs
  obtain ⟨fuel, hf⟩ := hd
  obtain ⟨p, hp, hq⟩ := open_section hf
  refine ⟨p, ?_, hq⟩
  simp only [Value.cells] at hp
  rw [← hp]

theorem open_sectionS {v : Value} {d : DataW H} {ps : List MemPlace} {r : Reach} {b0 : Nat} (hval : Value.okWide Tryd.prog w r b0 22 v) (hd : DataW.Trod enc Tryd.prog w base spare held 22 v d ps) : ∃ l : List SectionE, SectionAt w v l ∧ SectionFit l ∧ l.length ≤ maxLen := by
  obtain ⟨ao, len, cap, rfl⟩ := okWide_slice Tryd.underlying22 hval
  obtain ⟨fuel, hf⟩ := hd
  obtain ⟨u, l, e, hr, hq, hl⟩ := open_rows (α := SectionE) Tryd.underlying22 (show Tryd.prog.cellsOf 43 = 4 by kernel_rfl) (by omega) sectionC sectionC_len (fun p => NumAt w p.2.2.1.1 p.2.2.1.2 ∧ p.2.2.1.2.length ≤ maxLen ∧ p.1.size ≤ maxLen ∧ p.2.2.2.size ≤ maxLen) (fun _ _ _ h => open_section h) hf
  simp [Value.cells] at e
  subst e
  refine ⟨l, ⟨hr, fun p hp => (hq p hp).1⟩, fun p hp => ?_, hl⟩
  have := hq p hp
  unfold maxLen at this
  exact ⟨by omega, by omega, by omega⟩
end

end Go.Proofs.YtapfafibhjpkdaaDoor
