/-
  Changes: what came in, opened.
-/
import Derived.Test.YtklgjhemcofhhaaDoorChg
import Derived.Test.YtklgjhemcofhhaaDoorText
namespace Go.Proofs.YtklgjhemcofhhaaDoor
open Go.ChangeShapes Go.WideShapes Go.ChangeAt Go.RowKit
section
open Go.Deep
variable {H : Type} {enc : TypeId × Value → H} {w : World} {base : Nat} {spare : Nat → Bool} {held : Bool}
set_option maxRecDepth 100000
theorem open_chg {fuel : Nat} {cs : List Value} {x : DataW H × List MemPlace} (h : DataW.trod enc Tryd.prog w base spare held fuel 68 cs = some x) : ∃ p : ChgD, cs = chgC p ∧ p.2.2.1.size ≤ maxLen ∧ p.2.2.2.1.size ≤ maxLen := by
  obtain ⟨xs, n, _, rfl, hl, hlen, hf⟩ := DataW.trod_struct Tryd.underlying68 h
  match xs, hlen with
  | [y0, y1, y2, y3, y4], _ =>
    have h0 : DataW.trod enc Tryd.prog w base spare held n 3 ((cs.drop 0).take (Tryd.prog.cellsOf 3)) = some y0 := by simpa using hf 0 _ rfl
    obtain ⟨a0, e0, _, _⟩ := DataW.trod_int Tryd.underlying3 h0
    have h1 : DataW.trod enc Tryd.prog w base spare held n 3 ((cs.drop 1).take (Tryd.prog.cellsOf 3)) = some y1 := by simpa using hf 1 _ rfl
    obtain ⟨a1, e1, _, _⟩ := DataW.trod_int Tryd.underlying3 h1
    have h2 : DataW.trod enc Tryd.prog w base spare held n 9 ((cs.drop 2).take (Tryd.prog.cellsOf 9)) = some y2 := by simpa using hf 2 _ rfl
    obtain ⟨a2, e2, _, s2⟩ := DataW.trod_string Tryd.underlying9 h2
    have h3 : DataW.trod enc Tryd.prog w base spare held n 9 ((cs.drop 3).take (Tryd.prog.cellsOf 9)) = some y3 := by simpa using hf 3 _ rfl
    obtain ⟨a3, e3, _, s3⟩ := DataW.trod_string Tryd.underlying9 h3
    have h4 : DataW.trod enc Tryd.prog w base spare held n 3 ((cs.drop 4).take (Tryd.prog.cellsOf 3)) = some y4 := by simpa using hf 4 _ rfl
    obtain ⟨a4, e4, _, _⟩ := DataW.trod_int Tryd.underlying3 h4
    rw [show Tryd.prog.cellsOf 68 = 5 by kernel_rfl] at hl
    match cs, hl with
    | [c0, c1, c2, c3, c4], _ =>
      simp [show Tryd.prog.cellsOf 3 = 1 by kernel_rfl, show Tryd.prog.cellsOf 9 = 1 by kernel_rfl] at e0 e1 e2 e3 e4
      subst e0 e1 e2 e3 e4
      exact ⟨(a0, a1, a2, a3, a4), rfl, s2, s3⟩
theorem open_chgV {v : Value} {d : DataW H} {ps : List MemPlace} {r : Reach} {b0 : Nat} (hval : Value.okWide Tryd.prog w r b0 68 v) (hd : DataW.Trod enc Tryd.prog w base spare held 68 v d ps) : ∃ p : ChgD, v = .agg (chgC p).toArray ∧ p.2.2.1.size ≤ maxLen ∧ p.2.2.2.1.size ≤ maxLen := by
  obtain ⟨cs, rfl, hsz⟩ := okWide_struct Tryd.underlying68 hval
  obtain ⟨l⟩ := cs
  obtain ⟨fuel, hf⟩ := hd
  obtain ⟨p, hp, hq⟩ := open_chg hf
  refine ⟨p, ?_, hq⟩
  simp only [Value.cells] at hp
  rw [← hp]
theorem open_chgS {v : Value} {d : DataW H} {ps : List MemPlace} {r : Reach} {b0 : Nat} (hval : Value.okWide Tryd.prog w r b0 33 v) (hd : DataW.Trod enc Tryd.prog w base spare held 33 v d ps) : ∃ l : List ChgD, ChgAt w v l ∧ (∀ p ∈ l, p.2.2.1.size ≤ maxLen ∧ p.2.2.2.1.size ≤ maxLen) ∧ l.length ≤ maxLen := by
  obtain ⟨ao, len, cap, rfl⟩ := okWide_slice Tryd.underlying33 hval
  obtain ⟨fuel, hf⟩ := hd
  obtain ⟨u, l, e, hr, hq, hl⟩ := open_rows (α := ChgD) Tryd.underlying33 (show Tryd.prog.cellsOf 68 = 5 by kernel_rfl) (by omega) chgC chgC_len (fun p => p.2.2.1.size ≤ maxLen ∧ p.2.2.2.1.size ≤ maxLen) (fun _ _ _ h => open_chg h) hf
  simp [Value.cells] at e
  subst e
  exact ⟨l, hr, hq, hl⟩
end

end Go.Proofs.YtklgjhemcofhhaaDoor
