/-
  Choices that came in, opened.
-/
import Derived.Test.YtjpceimaggcncaaSizeC
import Derived.Test.YtjpceimaggcncaaText
namespace Go.Proofs.Ytjpceimaggcncaa
open Go.ChangeShapes Go.WideShapes Go.ChangeAt Go.RowKit
section
open Go.Deep
variable {H : Type} {enc : TypeId × Value → H} {w : World} {base : Nat} {spare : Nat → Bool} {held : Bool}
set_option maxRecDepth 100000
theorem open_choice {fuel : Nat} {cs : List Value} {x : DataW H × List MemPlace} (h : DataW.trod enc Try.prog w base spare held fuel 94 cs = some x) : ∃ p : ChoiceE, cs = choiceC p ∧ NumAt w p.2.1.1 p.2.1.2 ∧ p.2.1.2.length ≤ maxLen ∧ p.1.size ≤ maxLen := by
  obtain ⟨xs, n, _, rfl, hl, hlen, hf⟩ := DataW.trod_struct Try.underlying94 h
  match xs, hlen with
  | [y0, y1, y2], _ =>
    have h0 : DataW.trod enc Try.prog w base spare held n 9 ((cs.drop 0).take (Try.prog.cellsOf 9)) = some y0 := by simpa using hf 0 _ rfl
    obtain ⟨a0, e0, _, s0⟩ := DataW.trod_string Try.underlying9 h0
    have h1 : DataW.trod enc Try.prog w base spare held n 26 ((cs.drop 1).take (Try.prog.cellsOf 26)) = some y1 := by simpa using hf 1 _ rfl
    obtain ⟨a1, l1, e1, r1, _, m1⟩ := open_rows (α := NumD) Try.underlying26 (show Try.prog.cellsOf 3 = 1 by kernel_rfl) (by omega) numC numC_len (fun _ => True) (fun _ _ _ h => open_num h) h1
    have h2 : DataW.trod enc Try.prog w base spare held n 3 ((cs.drop 2).take (Try.prog.cellsOf 3)) = some y2 := by simpa using hf 2 _ rfl
    obtain ⟨a2, e2, _, _⟩ := DataW.trod_int Try.underlying3 h2
    rw [show Try.prog.cellsOf 94 = 3 by kernel_rfl] at hl
    match cs, hl with
    | [c0, c1, c2], _ =>
      simp [show Try.prog.cellsOf 3 = 1 by kernel_rfl, show Try.prog.cellsOf 9 = 1 by kernel_rfl, show Try.prog.cellsOf 26 = 1 by kernel_rfl] at e0 e1 e2
      subst e0 e1 e2
      exact ⟨(a0, (c1, l1), a2), rfl, r1, m1, s0⟩

theorem open_choiceS {v : Value} {d : DataW H} {ps : List MemPlace} {r : Reach} {b0 : Nat} (hval : Value.okWide Try.prog w r b0 52 v) (hd : DataW.Trod enc Try.prog w base spare held 52 v d ps) : ∃ l : List ChoiceE, ChoiceAt w v l ∧ ChoiceFit l ∧ l.length ≤ maxLen := by
  obtain ⟨ao, len, cap, rfl⟩ := okWide_slice Try.underlying52 hval
  obtain ⟨fuel, hf⟩ := hd
  obtain ⟨u, l, e, hr, hq, hl⟩ := open_rows (α := ChoiceE) Try.underlying52 (show Try.prog.cellsOf 94 = 3 by kernel_rfl) (by omega) choiceC choiceC_len (fun p => NumAt w p.2.1.1 p.2.1.2 ∧ p.2.1.2.length ≤ maxLen ∧ p.1.size ≤ maxLen) (fun _ _ _ h => open_choice h) hf
  simp [Value.cells] at e
  subst e
  refine ⟨l, ⟨hr, fun p hp => (hq p hp).1⟩, fun p hp => ?_, hl⟩
  have := hq p hp
  unfold maxLen at this
  exact ⟨by omega, by omega⟩
end

end Go.Proofs.Ytjpceimaggcncaa
