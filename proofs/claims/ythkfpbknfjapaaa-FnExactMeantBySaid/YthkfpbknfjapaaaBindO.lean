/-
  Binds that came in, opened.
-/
import Derived.Test.YthkfpbknfjapaaaBindF
import Derived.Test.YthkfpbknfjapaaaText
namespace Go.Proofs.Ythkfpbknfjapaaa
open Go.ChangeShapes Go.WideShapes Go.ChangeAt Go.RowKit
section
open Go.Deep
variable {H : Type} {enc : TypeId × Value → H} {w : World} {base : Nat} {spare : Nat → Bool} {held : Bool}
set_option maxRecDepth 100000
theorem open_bind {fuel : Nat} {cs : List Value} {x : DataW H × List MemPlace} (h : DataW.trod enc Try.prog w base spare held fuel 91 cs = some x) : ∃ p : BindE, cs = bindC p ∧ NumAt w p.2.1 p.2.2 ∧ p.2.2.length ≤ maxLen ∧ p.1.size ≤ maxLen := by
  obtain ⟨xs, n, _, rfl, hl, hlen, hf⟩ := DataW.trod_struct Try.underlying91 h
  match xs, hlen with
  | [y0, y1], _ =>
    have h0 : DataW.trod enc Try.prog w base spare held n 9 ((cs.drop 0).take (Try.prog.cellsOf 9)) = some y0 := by simpa using hf 0 _ rfl
    obtain ⟨a0, e0, _, s0⟩ := DataW.trod_string Try.underlying9 h0
    have h1 : DataW.trod enc Try.prog w base spare held n 39 ((cs.drop 1).take (Try.prog.cellsOf 39)) = some y1 := by simpa using hf 1 _ rfl
    obtain ⟨a1, l1, e1, r1, _, m1⟩ := open_rows (α := NumD) Try.underlying39 (show Try.prog.cellsOf 3 = 1 by kernel_rfl) (by omega) numC numC_len (fun _ => True) (fun _ _ _ h => open_num h) h1
    rw [show Try.prog.cellsOf 91 = 2 by kernel_rfl] at hl
    match cs, hl with
    | [c0, c1], _ =>
      simp [show Try.prog.cellsOf 9 = 1 by kernel_rfl, show Try.prog.cellsOf 39 = 1 by kernel_rfl] at e0 e1
      subst e0 e1
      exact ⟨(a0, (c1, l1)), rfl, r1, m1, s0⟩

theorem open_bindV {v : Value} {d : DataW H} {ps : List MemPlace} {r : Reach} {b0 : Nat} (hval : Value.okWide Try.prog w r b0 91 v) (hd : DataW.Trod enc Try.prog w base spare held 91 v d ps) : ∃ p : BindE, v = .agg (bindC p).toArray ∧ NumAt w p.2.1 p.2.2 ∧ p.2.2.length ≤ maxLen ∧ p.1.size ≤ maxLen := by
  obtain ⟨cs, rfl, hsz⟩ := okWide_struct Try.underlying91 hval
  obtain ⟨l⟩ := cs
  obtain ⟨fuel, hf⟩ := hd
  obtain ⟨p, hp, hq⟩ := open_bind hf
  refine ⟨p, ?_, hq⟩
  simp only [Value.cells] at hp
  rw [← hp]

theorem open_bindS {v : Value} {d : DataW H} {ps : List MemPlace} {r : Reach} {b0 : Nat} (hval : Value.okWide Try.prog w r b0 33 v) (hd : DataW.Trod enc Try.prog w base spare held 33 v d ps) : ∃ l : List BindE, BindAt w v l ∧ BindFit l ∧ l.length ≤ maxLen := by
  obtain ⟨ao, len, cap, rfl⟩ := okWide_slice Try.underlying33 hval
  obtain ⟨fuel, hf⟩ := hd
  obtain ⟨u, l, e, hr, hq, hl⟩ := open_rows (α := BindE) Try.underlying33 (show Try.prog.cellsOf 91 = 2 by kernel_rfl) (by omega) bindC bindC_len (fun p => NumAt w p.2.1 p.2.2 ∧ p.2.2.length ≤ maxLen ∧ p.1.size ≤ maxLen) (fun _ _ _ h => open_bind h) hf
  simp [Value.cells] at e
  subst e
  refine ⟨l, ⟨hr, fun p hp => (hq p hp).1⟩, fun p hp => ?_, hl⟩
  have := hq p hp
  unfold maxLen at this
  exact ⟨by omega, by omega⟩
end

end Go.Proofs.Ythkfpbknfjapaaa
