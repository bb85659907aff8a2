/-
  A cloud that came in, opened.
-/
import Derived.Test.YtpeiblodefaajaaDoorOpen
import Derived.Test.YtpeiblodefaajaaDoorCloud
namespace Go.Proofs.YtpeiblodefaajaaDoor
open Go.ChangeShapes Go.WideShapes Go.ChangeAt Go.RowKit
open Go.Deep
section
variable {H : Type} {enc : TypeId × Value → H} {w : World} {base : Nat} {spare : Nat → Bool} {held : Bool}
set_option maxRecDepth 100000

theorem open_cloud {v : Value} {d : DataW H} {ps : List MemPlace} {r : Reach} {b0 : Nat} (hval : Value.okWide Tryd.prog w r b0 43 v) (hd : DataW.Trod enc Tryd.prog w base spare held 43 v d ps) : ∃ c : CloudD, CloudAt w v c ∧ c.2.2.length ≤ maxLen := by
  obtain ⟨cs, rfl, hsz⟩ := okWide_struct Tryd.underlying43 hval
  rw [show Tryd.prog.cellsOf 43 = 3 by kernel_rfl] at hsz
  obtain ⟨l⟩ := cs
  obtain ⟨fuel, hf⟩ := hd
  obtain ⟨xs, m, _, _, hl, hlen, hf⟩ := DataW.trod_struct Tryd.underlying43 hf
  match xs, hlen with
  | [y0, y1, y2], _ =>
    have h0 : DataW.trod enc Tryd.prog w base spare held m 3 (((Value.agg ⟨l⟩).cells.toList.drop 0).take (Tryd.prog.cellsOf 3)) = some y0 := by simpa using hf 0 _ rfl
    have h1 : DataW.trod enc Tryd.prog w base spare held m 3 (((Value.agg ⟨l⟩).cells.toList.drop 1).take (Tryd.prog.cellsOf 3)) = some y1 := by simpa using hf 1 _ rfl
    have h2 : DataW.trod enc Tryd.prog w base spare held m 41 (((Value.agg ⟨l⟩).cells.toList.drop 2).take (Tryd.prog.cellsOf 41)) = some y2 := by simpa using hf 2 _ rfl
    obtain ⟨a, e0, _, _⟩ := DataW.trod_int Tryd.underlying3 h0
    obtain ⟨b, e1, _, _⟩ := DataW.trod_int Tryd.underlying3 h1
    obtain ⟨ev, zs, e2, hr, hq, hlen⟩ := open_rows (α := SparkD) Tryd.underlying41 (show Tryd.prog.cellsOf 89 = 5 by kernel_rfl) (by omega) sparkC sparkC_len (fun _ => True) (fun _ _ _ h => (open_spark h).imp fun _ e => ⟨e, trivial⟩) h2
    match l, hsz with
    | [c0, c1, c2], _ =>
      simp [Value.cells, show Tryd.prog.cellsOf 3 = 1 by kernel_rfl, show Tryd.prog.cellsOf 41 = 1 by kernel_rfl] at e0 e1 e2
      subst e0 e1 e2
      exact ⟨(a, b, zs), ⟨_, rfl, hr⟩, hlen⟩
end

end Go.Proofs.YtpeiblodefaajaaDoor
