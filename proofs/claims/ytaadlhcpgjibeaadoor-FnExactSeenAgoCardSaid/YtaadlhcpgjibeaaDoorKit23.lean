/-
  What every card of this seat leans on: the program's table, read as the row lists it, is the table of the walks; it is read so again behind the call; the door's own run meets the condition.
-/
import Derived.Test.YtaadlhcpgjibeaaDoorTab23
import Derived.Lib.LaidTab
import Derived.LaidMore
import Derived.LaidHandle
import Derived.Stop.Joined
namespace Go.Proofs.YtaadlhcpgjibeaaDoor
open Go.ChangeShapes Go.WideShapes Go.ChangeAt Go.RowKit

theorem wf_bd (a : Int) (h : (Lit.int .i64 a).wf = true) : -9223372036854775808 ≤ a ∧ a ≤ 9223372036854775807 := by
  have h' : IntKind.i64.min ≤ a ∧ a ≤ 9223372036854775807 := by simpa [Lit.wf] using h
  have e : IntKind.i64.min = -9223372036854775808 := by decide
  rw [e] at h'
  exact h'
theorem own : ownKnob Tryd.prog.godebug = none := by kernel_rfl
theorem gTab : Tryd.prog.globalNamed "loop.example/g00064/impl.fieldWidths" = some 0 := by kernel_rfl
theorem tTab : (Tryd.prog.globals[0]?).map (·.type) = some 96 := by kernel_rfl
theorem cells3 : Tryd.prog.cellsOf 3 = 1 := by kernel_rfl
theorem cells96 : Tryd.prog.cellsOf 96 = 3 := by kernel_rfl
def laid1 : List (String × DataW Unit) := [("loop.example/g00064/impl.fieldWidths", Rows.laid_loop_example_g00064_impl_fieldWidths)]
def cellsW : Array Value := (zs3.map fun z => Value.int .i64 z).toArray

theorem tabIs_of {W : World} (h : laidMetH Tryd.prog laid1 W) : Lib.TabIs Tryd.prog W "loop.example/g00064/impl.fieldWidths" .i64 zs3 := by
  rw [MakeChecks.laidMetH_plain _ _ _ (by kernel_rfl)] at h
  exact Lib.tabIs_of_head gTab tTab Tryd.underlying96 Tryd.underlying3 cells3 cells96 (show laidMet Tryd.prog (("loop.example/g00064/impl.fieldWidths", Lib.tabData .i64 zs3) :: []) W from h)
theorem Tab.of {W : World} (h : Lib.TabIs Tryd.prog W "loop.example/g00064/impl.fieldWidths" .i64 zs3) : Tab W := fun i hi => h.cell gTab i hi

theorem reads_table {H : Type} (enc : TypeId × Value → H) (W : World) (sp : Nat → Bool) : DataW.trod enc Tryd.prog W 0 sp true 3 96 cellsW.toList = some (Rows.laid_loop_example_g00064_impl_fieldWidths, []) := by kernel_rfl

theorem door_met (os : Os) (args : Array Value) : laidMetH Tryd.prog laid1 ((World.doorLaid Tryd.prog 400 os).forCall (fun _ _ => 0) ⟨#[], args, []⟩).memory :=
  laidMetH_of_parts3 (fuel := 8) (laidMet_of_run' 8 (by kernel_rfl) (by kernel_rfl)) (by kernel_rfl) (by kernel_rfl)

theorem vars_again {H : Type} {enc : TypeId × Value → H} {W' : World} (hvar : W'.var? Tryd.prog "loop.example/g00064/impl.fieldWidths" = some cellsW) (sp : Nat → Bool) :
    DataW.TrodVars enc Tryd.prog W' sp ["loop.example/g00064/impl.fieldWidths"] [Rows.laid_loop_example_g00064_impl_fieldWidths] (MemPlace.row ⟨0, 0, none⟩ cellsW.size ++ [] ++ []) :=
  ⟨0, 96, cellsW, 3, [], [], gTab, tTab, hvar, reads_table enc W' sp, rfl, rfl⟩
end Go.Proofs.YtaadlhcpgjibeaaDoor
