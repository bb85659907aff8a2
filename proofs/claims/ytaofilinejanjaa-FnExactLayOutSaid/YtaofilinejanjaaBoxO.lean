/-
  Box: what came in, opened.
-/
import Derived.Test.YtaofilinejanjaaBox
import Derived.Test.YtaofilinejanjaaText
namespace Go.Proofs.Ytaofilinejanjaa
open Go.ChangeShapes Go.WideShapes Go.ChangeAt Go.RowKit
section
open Go.Deep
variable {H : Type} {enc : TypeId × Value → H} {w : World} {base : Nat} {spare : Nat → Bool} {held : Bool}
set_option maxRecDepth 100000
theorem open_box {fuel : Nat} {cs : List Value} {x : DataW H × List MemPlace} (h : DataW.trod enc Try.prog w base spare held fuel 55 cs = some x) : ∃ p : BoxD, cs = boxC p := by
  obtain ⟨xs, n, _, rfl, hl, hlen, hf⟩ := DataW.trod_struct Try.underlying55 h
  match xs, hlen with
  | [y0, y1, y2, y3, y4], _ =>
    have h0 : DataW.trod enc Try.prog w base spare held n 3 ((cs.drop 0).take (Try.prog.cellsOf 3)) = some y0 := by simpa using hf 0 _ rfl
    obtain ⟨a0, e0, _, _⟩ := DataW.trod_int Try.underlying3 h0
    have h1 : DataW.trod enc Try.prog w base spare held n 3 ((cs.drop 1).take (Try.prog.cellsOf 3)) = some y1 := by simpa using hf 1 _ rfl
    obtain ⟨a1, e1, _, _⟩ := DataW.trod_int Try.underlying3 h1
    have h2 : DataW.trod enc Try.prog w base spare held n 3 ((cs.drop 2).take (Try.prog.cellsOf 3)) = some y2 := by simpa using hf 2 _ rfl
    obtain ⟨a2, e2, _, _⟩ := DataW.trod_int Try.underlying3 h2
    have h3 : DataW.trod enc Try.prog w base spare held n 3 ((cs.drop 3).take (Try.prog.cellsOf 3)) = some y3 := by simpa using hf 3 _ rfl
    obtain ⟨a3, e3, _, _⟩ := DataW.trod_int Try.underlying3 h3
    have h4 : DataW.trod enc Try.prog w base spare held n 3 ((cs.drop 4).take (Try.prog.cellsOf 3)) = some y4 := by simpa using hf 4 _ rfl
    obtain ⟨a4, e4, _, _⟩ := DataW.trod_int Try.underlying3 h4
    rw [show Try.prog.cellsOf 55 = 5 by kernel_rfl] at hl
    match cs, hl with
    | [c0, c1, c2, c3, c4], _ =>
      simp [show Try.prog.cellsOf 3 = 1 by kernel_rfl] at e0 e1 e2 e3 e4
      subst e0 e1 e2 e3 e4
      exact ⟨(a0, a1, a2, a3, a4), rfl⟩
theorem open_boxS {v : Value} {d : DataW H} {ps : List MemPlace} {r : Reach} {b0 : Nat} (hval : Value.okWide Try.prog w r b0 22 v) (hd : DataW.Trod enc Try.prog w base spare held 22 v d ps) : ∃ l : List BoxD, BoxAt w v l ∧ (∀ p ∈ l, True) ∧ l.length ≤ maxLen := by
  obtain ⟨ao, len, cap, rfl⟩ := okWide_slice Try.underlying22 hval
  obtain ⟨fuel, hf⟩ := hd
  obtain ⟨u, l, e, hr, hq, hl⟩ := open_rows (α := BoxD) Try.underlying22 (show Try.prog.cellsOf 55 = 5 by kernel_rfl) (by omega) boxC boxC_len (fun p => True) (fun _ _ _ h => (open_box h).imp fun _ e => ⟨e, trivial⟩) hf
  simp [Value.cells] at e
  subst e
  exact ⟨l, hr, hq, hl⟩
end

end Go.Proofs.Ytaofilinejanjaa
