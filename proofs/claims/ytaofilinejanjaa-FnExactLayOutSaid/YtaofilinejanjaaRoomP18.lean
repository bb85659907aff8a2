/-
  What ShareRoom answers; free of the program.
-/
import Derived.Test.YtaofilinejanjaaShS18
namespace Go.Proofs.Ytaofilinejanjaa
open Go.ChangeShapes Go.WideShapes Go.ChangeAt Go.RowKit

set_option maxRecDepth 100000
set_option linter.unusedVariables false

def RoomOk (room : Int) (least grow : List Int) : Prop := (0 ≤ room ∧ room ≤ 10000) ∧ ShP least grow
noncomputable def roomA (room : Int) (least grow : List Int) : List Int × Bool := if dec (RoomOk room least grow) then (shA room least grow, true) else ([], false)
theorem roomA_no {room : Int} {least grow : List Int} (h : ¬ RoomOk room least grow) : roomA room least grow = ([], false) := by unfold roomA; rw [dec_no h]; rfl
theorem roomA_yes {room : Int} {least grow : List Int} (h : RoomOk room least grow) : roomA room least grow = (shA room least grow, true) := by unfold roomA; rw [dec_yes h]; rfl
theorem shA_len {room : Int} {least grow : List Int} (h : grow.length = least.length) : (shA room least grow).length = least.length := by
  unfold shA
  split
  · rfl
  · rw [bumpL_len, bas_len h]
theorem roomA_len (room : Int) (least grow : List Int) : (roomA room least grow).1.length ≤ 40 := by
  rcases Classical.em (RoomOk room least grow) with h | h
  · rw [roomA_yes h]; dsimp only; rw [shA_len h.2.2.1]; exact h.2.1
  · rw [roomA_no h]; simp

end Go.Proofs.Ytaofilinejanjaa
