/-
  Items: what came in, opened.
-/
import Derived.Test.YtoimpkhgdpkhkaaDoorItem
import Derived.Test.YtoimpkhgdpkhkaaDoorPlacedO
namespace Go.Proofs.YtoimpkhgdpkhkaaDoor
open Go.ChangeShapes Go.WideShapes Go.ChangeAt Go.RowKit
section
open Go.Deep
variable {H : Type} {enc : TypeId × Value → H} {w : World} {base : Nat} {spare : Nat → Bool} {held : Bool}
set_option maxRecDepth 100000

theorem open_item {fuel : Nat} {cs : List Value} {x : DataW H × List MemPlace} (h : DataW.trod enc Tryd.prog w base spare held fuel 47 cs = some x) : ∃ p : ItemD, cs = itemC p := by
  obtain ⟨xs, n, _, rfl, hl, hlen, hf⟩ := DataW.trod_struct Tryd.underlying47 h
  match xs, hlen with
  | [y0, y1, y2, y3, y4, y5], _ =>
    have h0 : DataW.trod enc Tryd.prog w base spare held n 3 ((cs.drop 0).take (Tryd.prog.cellsOf 3)) = some y0 := by simpa using hf 0 _ rfl
    have h1 : DataW.trod enc Tryd.prog w base spare held n 3 ((cs.drop 1).take (Tryd.prog.cellsOf 3)) = some y1 := by simpa using hf 1 _ rfl
    have h2 : DataW.trod enc Tryd.prog w base spare held n 3 ((cs.drop 2).take (Tryd.prog.cellsOf 3)) = some y2 := by simpa using hf 2 _ rfl
    have h3 : DataW.trod enc Tryd.prog w base spare held n 3 ((cs.drop 3).take (Tryd.prog.cellsOf 3)) = some y3 := by simpa using hf 3 _ rfl
    have h4 : DataW.trod enc Tryd.prog w base spare held n 4 ((cs.drop 4).take (Tryd.prog.cellsOf 4)) = some y4 := by simpa using hf 4 _ rfl
    have h5 : DataW.trod enc Tryd.prog w base spare held n 45 ((cs.drop 5).take (Tryd.prog.cellsOf 45)) = some y5 := by simpa using hf 5 _ rfl
    obtain ⟨a0, e0, _, _⟩ := DataW.trod_int Tryd.underlying3 h0
    obtain ⟨a1, e1, _, _⟩ := DataW.trod_int Tryd.underlying3 h1
    obtain ⟨a2, e2, _, _⟩ := DataW.trod_int Tryd.underlying3 h2
    obtain ⟨a3, e3, _, _⟩ := DataW.trod_int Tryd.underlying3 h3
    obtain ⟨a4, e4, _⟩ := DataW.trod_bool Tryd.underlying4 h4
    obtain ⟨⟨a5, a6, a7, a8⟩, e5⟩ := open_placed h5
    rw [show Tryd.prog.cellsOf 47 = 9 by kernel_rfl] at hl
    match cs, hl with
    | [c0, c1, c2, c3, c4, c5, c6, c7, c8], _ =>
      simp [show Tryd.prog.cellsOf 3 = 1 by kernel_rfl, show Tryd.prog.cellsOf 4 = 1 by kernel_rfl, show Tryd.prog.cellsOf 45 = 4 by kernel_rfl, placedC] at e0 e1 e2 e3 e4 e5
      obtain ⟨e5, e6, e7, e8⟩ := e5
      subst e0 e1 e2 e3 e4 e5 e6 e7 e8
      exact ⟨(a0, a1, a2, a3, a4, a5, a6, a7, a8), rfl⟩
theorem open_itemV {v : Value} {d : DataW H} {ps : List MemPlace} {r : Reach} {b0 : Nat} (hval : Value.okWide Tryd.prog w r b0 47 v) (hd : DataW.Trod enc Tryd.prog w base spare held 47 v d ps) : ∃ p : ItemD, v = .agg (itemC p).toArray := by
  obtain ⟨cs, rfl, hsz⟩ := okWide_struct Tryd.underlying47 hval
  obtain ⟨l⟩ := cs
  obtain ⟨fuel, hf⟩ := hd
  obtain ⟨p, hp⟩ := open_item hf
  refine ⟨p, ?_⟩
  simp only [Value.cells] at hp
  rw [← hp]
theorem open_itemS {v : Value} {d : DataW H} {ps : List MemPlace} {r : Reach} {b0 : Nat} (hval : Value.okWide Tryd.prog w r b0 52 v) (hd : DataW.Trod enc Tryd.prog w base spare held 52 v d ps) : ∃ l : List ItemD, ItemAt w v l ∧ (∀ p ∈ l, True) ∧ l.length ≤ maxLen := by
  obtain ⟨ao, len, cap, rfl⟩ := okWide_slice Tryd.underlying52 hval
  obtain ⟨fuel, hf⟩ := hd
  obtain ⟨u, l, e, hr, hq, hl⟩ := open_rows (α := ItemD) Tryd.underlying52 (show Tryd.prog.cellsOf 47 = 9 by kernel_rfl) (by omega) itemC itemC_len (fun p => True) (fun _ _ _ h => (open_item h).imp fun _ e => ⟨e, trivial⟩) hf
  simp [Value.cells] at e
  subst e
  exact ⟨l, hr, hq, hl⟩
end

end Go.Proofs.YtoimpkhgdpkhkaaDoor
