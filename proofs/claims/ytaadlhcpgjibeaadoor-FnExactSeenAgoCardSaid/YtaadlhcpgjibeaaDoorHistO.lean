/-
  Lists of lists of things that came in, opened.
-/
import Derived.Test.YtaadlhcpgjibeaaDoorHist
import Derived.Test.YtaadlhcpgjibeaaDoorThingO
import Derived.Test.YtaadlhcpgjibeaaDoorText
namespace Go.Proofs.YtaadlhcpgjibeaaDoor
open Go.ChangeShapes Go.WideShapes Go.ChangeAt Go.RowKit
open Go.Deep
section
open Go.Deep
variable {H : Type} {enc : TypeId × Value → H} {w : World} {base : Nat} {spare : Nat → Bool} {held : Bool}
set_option maxRecDepth 100000

theorem open_things {fuel : Nat} {cs : List Value} {x : DataW H × List MemPlace} (h : DataW.trod enc Tryd.prog w base spare held fuel 39 cs = some x) : ∃ r : ThingsE, cs = thingsC r ∧ ThingAt w r.1 r.2 ∧ r.2.length ≤ maxLen := by
  obtain ⟨a, l, e, hr, _, hl⟩ := open_rows (α := ThingD) Tryd.underlying39 (show Tryd.prog.cellsOf 116 = 4 by kernel_rfl) (by omega) thingC thingC_len (fun _ => True) (fun _ _ _ h => by obtain ⟨p, e⟩ := open_thing h; exact ⟨p, e, trivial⟩) h
  exact ⟨(a, l), e, hr, hl⟩
theorem open_hist {v : Value} {d : DataW H} {ps : List MemPlace} {r : Reach} {b0 : Nat} (hval : Value.okWide Tryd.prog w r b0 54 v) (hd : DataW.Trod enc Tryd.prog w base spare held 54 v d ps) : ∃ fs : List (List ThingD), HistAt w v fs ∧ fs.length ≤ 9223372036854775807 ∧ HistFit fs := by
  obtain ⟨ao, len, cap, rfl⟩ := okWide_slice Tryd.underlying54 hval
  obtain ⟨fuel, hf⟩ := hd
  obtain ⟨a1, l1, e1, r1, q1, m1⟩ := open_rows (α := ThingsE) Tryd.underlying54 (show Tryd.prog.cellsOf 39 = 1 by kernel_rfl) (by omega) thingsC thingsC_len (fun p => ThingAt w p.1 p.2 ∧ p.2.length ≤ maxLen) (fun _ _ _ h => open_things h) hf
  simp [Value.cells] at e1
  subst e1
  refine ⟨l1.map Prod.snd, ⟨l1, ⟨r1, fun p hp => (q1 p hp).1⟩, rfl⟩, ?_, ?_⟩
  · unfold maxLen at m1; rw [List.length_map]; omega
  · intro p hp
    obtain ⟨z, hz, rfl⟩ := List.mem_map.1 hp
    have := (q1 z hz).2
    unfold maxLen at this
    omega
end

end Go.Proofs.YtaadlhcpgjibeaaDoor
