/-
  Stores that came in, opened.
-/
import Derived.Test.YtipgffikmnebnaaResidentO
import Derived.Test.YtipgffikmnebnaaStore
namespace Go.Proofs.Ytipgffikmnebnaa
open Go.ChangeShapes Go.WideShapes Go.ChangeAt Go.RowKit
section
open Go.Deep
variable {H : Type} {enc : TypeId × Value → H} {w : World} {base : Nat} {spare : Nat → Bool} {held : Bool}
set_option maxRecDepth 100000

theorem open_store {v : Value} {d : DataW H} {ps : List MemPlace} {r : Reach} {b0 : Nat} (hval : Value.okWide Try.prog w r b0 65 v) (hd : DataW.Trod enc Try.prog w base spare held 65 v d ps) : ∃ c : StoreD, StoreAt w v c ∧ (c.2.2.length ≤ maxLen ∧ ∀ p ∈ c.2.2, p.1.size ≤ maxLen) := by
  obtain ⟨cs, rfl, hsz⟩ := okWide_struct Try.underlying65 hval
  rw [show Try.prog.cellsOf 65 = 3 by kernel_rfl] at hsz
  obtain ⟨l⟩ := cs
  obtain ⟨fuel, hf⟩ := hd
  obtain ⟨xs, m, _, _, hl, hlen, hf⟩ := DataW.trod_struct Try.underlying65 hf
  match xs, hlen with
  | [y0, y1, y2], _ =>
    have h0 : DataW.trod enc Try.prog w base spare held m 3 (((Value.agg ⟨l⟩).cells.toList.drop 0).take (Try.prog.cellsOf 3)) = some y0 := by simpa using hf 0 _ rfl
    have h1 : DataW.trod enc Try.prog w base spare held m 3 (((Value.agg ⟨l⟩).cells.toList.drop 1).take (Try.prog.cellsOf 3)) = some y1 := by simpa using hf 1 _ rfl
    have h2 : DataW.trod enc Try.prog w base spare held m 63 (((Value.agg ⟨l⟩).cells.toList.drop 2).take (Try.prog.cellsOf 63)) = some y2 := by simpa using hf 2 _ rfl
    obtain ⟨a, e0, _, _⟩ := DataW.trod_int Try.underlying3 h0
    obtain ⟨b, e1, _, _⟩ := DataW.trod_int Try.underlying3 h1
    obtain ⟨ev, zs, e2, hr, hq, hlen⟩ := open_rows (α := ResidentD) Try.underlying63 (show Try.prog.cellsOf 176 = 4 by kernel_rfl) (by omega) residentC residentC_len (fun p => p.1.size ≤ maxLen) (fun _ _ _ h => open_resident h) h2
    match l, hsz with
    | [c0, c1, c2], _ =>
      simp [Value.cells, show Try.prog.cellsOf 3 = 1 by kernel_rfl, show Try.prog.cellsOf 63 = 1 by kernel_rfl] at e0 e1 e2
      subst e0 e1 e2
      exact ⟨(a, b, zs), ⟨_, rfl, hr⟩, hlen, hq⟩
end

end Go.Proofs.Ytipgffikmnebnaa
