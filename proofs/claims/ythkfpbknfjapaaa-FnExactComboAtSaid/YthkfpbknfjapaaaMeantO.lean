/-
  Meant ones that came in, opened.
-/
import Derived.Test.YthkfpbknfjapaaaMeant
import Derived.Test.YthkfpbknfjapaaaText
namespace Go.Proofs.Ythkfpbknfjapaaa
open Go.ChangeShapes Go.WideShapes Go.ChangeAt Go.RowKit
section
open Go.Deep
variable {H : Type} {enc : TypeId × Value → H} {w : World} {base : Nat} {spare : Nat → Bool} {held : Bool}
set_option maxRecDepth 100000
theorem open_meant {fuel : Nat} {cs : List Value} {x : DataW H × List MemPlace} (h : DataW.trod enc Try.prog w base spare held fuel 111 cs = some x) : ∃ p : MeantD, cs = meantC p ∧ p.2.1.size ≤ maxLen := by
  obtain ⟨xs, n, _, rfl, hl, hlen, hf⟩ := DataW.trod_struct Try.underlying111 h
  match xs, hlen with
  | [y0, y1, y2], _ =>
    have h0 : DataW.trod enc Try.prog w base spare held n 3 ((cs.drop 0).take (Try.prog.cellsOf 3)) = some y0 := by simpa using hf 0 _ rfl
    obtain ⟨a0, e0, _, _⟩ := DataW.trod_int Try.underlying3 h0
    have h1 : DataW.trod enc Try.prog w base spare held n 9 ((cs.drop 1).take (Try.prog.cellsOf 9)) = some y1 := by simpa using hf 1 _ rfl
    obtain ⟨a1, e1, _, s1⟩ := DataW.trod_string Try.underlying9 h1
    have h2 : DataW.trod enc Try.prog w base spare held n 4 ((cs.drop 2).take (Try.prog.cellsOf 4)) = some y2 := by simpa using hf 2 _ rfl
    obtain ⟨a2, e2, _⟩ := DataW.trod_bool Try.underlying4 h2
    rw [show Try.prog.cellsOf 111 = 3 by kernel_rfl] at hl
    match cs, hl with
    | [c0, c1, c2], _ =>
      simp [show Try.prog.cellsOf 3 = 1 by kernel_rfl, show Try.prog.cellsOf 4 = 1 by kernel_rfl, show Try.prog.cellsOf 9 = 1 by kernel_rfl] at e0 e1 e2
      subst e0 e1 e2
      exact ⟨(a0, a1, a2), rfl, s1⟩
theorem open_meantS {v : Value} {d : DataW H} {ps : List MemPlace} {r : Reach} {b0 : Nat} (hval : Value.okWide Try.prog w r b0 58 v) (hd : DataW.Trod enc Try.prog w base spare held 58 v d ps) : ∃ l : List MeantD, MeantAt w v l ∧ (∀ p ∈ l, p.2.1.size ≤ maxLen) ∧ l.length ≤ maxLen := by
  obtain ⟨ao, len, cap, rfl⟩ := okWide_slice Try.underlying58 hval
  obtain ⟨fuel, hf⟩ := hd
  obtain ⟨u, l, e, hr, hq, hl⟩ := open_rows (α := MeantD) Try.underlying58 (show Try.prog.cellsOf 111 = 3 by kernel_rfl) (by omega) meantC meantC_len (fun p => p.2.1.size ≤ maxLen) (fun _ _ _ h => open_meant h) hf
  simp [Value.cells] at e
  subst e
  exact ⟨l, hr, hq, hl⟩
end

end Go.Proofs.Ythkfpbknfjapaaa
