/-
  A clock that came in, opened.
-/
import Derived.Test.YthihgjcnjgpegaaOpen
import Derived.Test.YthihgjcnjgpegaaClock
namespace Go.Proofs.Ythihgjcnjgpegaa
open Go.ChangeShapes Go.WideShapes Go.ChangeAt Go.RowKit
open Go.Deep
section
variable {H : Type} {enc : TypeId × Value → H} {w : World} {base : Nat} {spare : Nat → Bool} {held : Bool}
set_option maxRecDepth 100000

theorem open_clock {v : Value} {d : DataW H} {ps : List MemPlace} {r : Reach} {b0 : Nat} (hval : Value.okWide Try.prog w r b0 36 v) (hd : DataW.Trod enc Try.prog w base spare held 36 v d ps) : ∃ c : ClockD, ClockAt w v c ∧ c.2.length ≤ maxLen := by
  obtain ⟨cs, rfl, hsz⟩ := okWide_struct Try.underlying36 hval
  rw [show Try.prog.cellsOf 36 = 2 by kernel_rfl] at hsz
  obtain ⟨l⟩ := cs
  obtain ⟨fuel, hf⟩ := hd
  obtain ⟨xs, m, _, _, hl, hlen, hf⟩ := DataW.trod_struct Try.underlying36 hf
  match xs, hlen with
  | [y0, y1], _ =>
    have h0 : DataW.trod enc Try.prog w base spare held m 3 (((Value.agg ⟨l⟩).cells.toList.drop 0).take (Try.prog.cellsOf 3)) = some y0 := by simpa using hf 0 _ rfl
    have h1 : DataW.trod enc Try.prog w base spare held m 34 (((Value.agg ⟨l⟩).cells.toList.drop 1).take (Try.prog.cellsOf 34)) = some y1 := by simpa using hf 1 _ rfl
    obtain ⟨a, e0, _, _⟩ := DataW.trod_int Try.underlying3 h0
    obtain ⟨ev, zs, e1, hr, hq, hlen⟩ := open_rows (α := TimerD) Try.underlying34 (show Try.prog.cellsOf 43 = 4 by kernel_rfl) (by omega) timerC timerC_len (fun _ => True) (fun _ _ _ h => (open_timer h).imp fun _ e => ⟨e, trivial⟩) h1
    match l, hsz with
    | [c0, c1], _ =>
      simp [Value.cells, show Try.prog.cellsOf 3 = 1 by kernel_rfl, show Try.prog.cellsOf 34 = 1 by kernel_rfl] at e0 e1
      subst e0 e1
      exact ⟨(a, zs), ⟨_, rfl, hr⟩, hlen⟩
end

end Go.Proofs.Ythihgjcnjgpegaa
