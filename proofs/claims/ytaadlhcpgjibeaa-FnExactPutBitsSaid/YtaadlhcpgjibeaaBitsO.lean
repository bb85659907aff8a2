/-
  Bits that came in, opened.
-/
import Derived.Test.YtaadlhcpgjibeaaText
import Derived.Test.YtaadlhcpgjibeaaBits
namespace Go.Proofs.Ytaadlhcpgjibeaa
open Go.ChangeShapes Go.WideShapes Go.ChangeAt Go.RowKit
open Go.Deep
section
open Go.Deep
variable {H : Type} {enc : TypeId × Value → H} {w : World} {base : Nat} {spare : Nat → Bool} {held : Bool}
set_option maxRecDepth 100000

theorem open_bits {v : Value} {d : DataW H} {ps : List MemPlace} {r : Reach} {b0 : Nat} (hval : Value.okWide Try.prog w r b0 24 v) (hd : DataW.Trod enc Try.prog w base spare held 24 v d ps) : ∃ c : BitsD, BitsAt w v c ∧ c.2.length ≤ maxLen ∧ -9223372036854775808 ≤ c.1 ∧ c.1 ≤ 9223372036854775807 := by
  obtain ⟨cs, rfl, hsz⟩ := okWide_struct Try.underlying24 hval
  rw [show Try.prog.cellsOf 24 = 2 by kernel_rfl] at hsz
  obtain ⟨l⟩ := cs
  obtain ⟨fuel, hf⟩ := hd
  obtain ⟨xs, m, _, _, hl, hlen, hf⟩ := DataW.trod_struct Try.underlying24 hf
  match xs, hlen with
  | [y0, y1], _ =>
    have h0 : DataW.trod enc Try.prog w base spare held m 3 (((Value.agg ⟨l⟩).cells.toList.drop 0).take (Try.prog.cellsOf 3)) = some y0 := by simpa using hf 0 _ rfl
    have h1 : DataW.trod enc Try.prog w base spare held m 22 (((Value.agg ⟨l⟩).cells.toList.drop 1).take (Try.prog.cellsOf 22)) = some y1 := by simpa using hf 1 _ rfl
    obtain ⟨a, e0, _, s0⟩ := DataW.trod_int Try.underlying3 h0
    obtain ⟨ev, zs, e1, hr, hq, hlen⟩ := open_rows (α := BytD) Try.underlying22 (show Try.prog.cellsOf 5 = 1 by kernel_rfl) (by omega) bytC bytC_len (fun _ => True) (fun _ _ _ h => open_byt h) h1
    match l, hsz with
    | [c0, c1], _ =>
      simp [Value.cells, show Try.prog.cellsOf 3 = 1 by kernel_rfl, show Try.prog.cellsOf 22 = 1 by kernel_rfl] at e0 e1
      subst e0 e1
      exact ⟨(a, zs), ⟨_, rfl, hr⟩, hlen, by simp [Lit.wf, IntKind.min, IntKind.max, IntKind.signed, IntKind.bits] at s0; omega⟩
end

end Go.Proofs.Ytaadlhcpgjibeaa
