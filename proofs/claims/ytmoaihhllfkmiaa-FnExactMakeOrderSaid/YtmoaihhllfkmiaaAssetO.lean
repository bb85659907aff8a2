/-
  Assets: what came in, opened.
-/
import Derived.Test.YtmoaihhllfkmiaaAssetF
import Derived.Test.YtmoaihhllfkmiaaText
namespace Go.Proofs.Ytmoaihhllfkmiaa
open Go.ChangeShapes Go.WideShapes Go.ChangeAt Go.RowKit
section
open Go.Deep
variable {H : Type} {enc : TypeId × Value → H} {w : World} {base : Nat} {spare : Nat → Bool} {held : Bool}
set_option maxRecDepth 100000

theorem open_asset {fuel : Nat} {cs : List Value} {x : DataW H × List MemPlace} (h : DataW.trod enc Try.prog w base spare held fuel 87 cs = some x) : ∃ p : AssetE, cs = assetC p ∧ (TxtAt w p.2.1.1 p.2.1.2 ∧ BytAt w p.2.2.1 p.2.2.2) ∧ p.1.size ≤ maxLen ∧ p.2.1.2.length ≤ maxLen ∧ (∀ q ∈ p.2.1.2, q.size ≤ maxLen) ∧ p.2.2.2.length ≤ maxLen := by
  obtain ⟨xs, n, _, rfl, hl, hlen, hf⟩ := DataW.trod_struct Try.underlying87 h
  match xs, hlen with
  | [y0, y1, y2], _ =>
    have h0 : DataW.trod enc Try.prog w base spare held n 9 ((cs.drop 0).take (Try.prog.cellsOf 9)) = some y0 := by simpa using hf 0 _ rfl
    obtain ⟨a0, e0, _, s0⟩ := DataW.trod_string Try.underlying9 h0
    have h1 : DataW.trod enc Try.prog w base spare held n 25 ((cs.drop 1).take (Try.prog.cellsOf 25)) = some y1 := by simpa using hf 1 _ rfl
    obtain ⟨a1, l1, e1, r1, q1, m1⟩ := open_rows (α := TxtD) Try.underlying25 (show Try.prog.cellsOf 9 = 1 by kernel_rfl) (by omega) txtC txtC_len (fun p => p.size ≤ maxLen) (fun _ _ _ h => open_txt h) h1
    have h2 : DataW.trod enc Try.prog w base spare held n 22 ((cs.drop 2).take (Try.prog.cellsOf 22)) = some y2 := by simpa using hf 2 _ rfl
    obtain ⟨a2, l2, e2, r2, _, m2⟩ := open_rows (α := BytD) Try.underlying22 (show Try.prog.cellsOf 5 = 1 by kernel_rfl) (by omega) bytC bytC_len (fun _ => True) (fun _ _ _ h => open_byt h) h2
    rw [show Try.prog.cellsOf 87 = 3 by kernel_rfl] at hl
    match cs, hl with
    | [c0, c1, c2], _ =>
      simp [show Try.prog.cellsOf 9 = 1 by kernel_rfl, show Try.prog.cellsOf 25 = 1 by kernel_rfl, show Try.prog.cellsOf 22 = 1 by kernel_rfl] at e0 e1 e2
      subst e0 e1 e2
      exact ⟨(a0, (c1, l1), (c2, l2)), rfl, ⟨r1, r2⟩, s0, m1, q1, m2⟩
theorem open_assetS {v : Value} {d : DataW H} {ps : List MemPlace} {r : Reach} {b0 : Nat} (hval : Value.okWide Try.prog w r b0 41 v) (hd : DataW.Trod enc Try.prog w base spare held 41 v d ps) : ∃ l : List AssetE, AssetAt w v l ∧ AssetFit l ∧ l.length ≤ maxLen := by
  obtain ⟨ao, len, cap, rfl⟩ := okWide_slice Try.underlying41 hval
  obtain ⟨fuel, hf⟩ := hd
  obtain ⟨u, l, e, hr, hq, hl⟩ := open_rows (α := AssetE) Try.underlying41 (show Try.prog.cellsOf 87 = 3 by kernel_rfl) (by omega) assetC assetC_len (fun p => (TxtAt w p.2.1.1 p.2.1.2 ∧ BytAt w p.2.2.1 p.2.2.2) ∧ p.1.size ≤ maxLen ∧ p.2.1.2.length ≤ maxLen ∧ (∀ q ∈ p.2.1.2, q.size ≤ maxLen) ∧ p.2.2.2.length ≤ maxLen) (fun _ _ _ h => open_asset h) hf
  simp [Value.cells] at e
  subst e
  refine ⟨l, ⟨hr, fun p hp => (hq p hp).1⟩, fun p hp => ?_, hl⟩
  have := hq p hp
  unfold maxLen at this
  exact ⟨this.2.1, this.2.2.1, this.2.2.2.1, this.2.2.2.2⟩
end

end Go.Proofs.Ytmoaihhllfkmiaa
