/-
  Poses, free of the program.
-/
import Derived.Test.YtpnplfngglfpoaaGoodC11
import Derived.Test.YtpnplfngglfpoaaPose11
namespace Go.Proofs.Ytpnplfngglfpoaa
open Go.ChangeShapes Go.WideShapes Go.ChangeAt Go.RowKit

set_option maxRecDepth 100000
set_option linter.unusedVariables false

open Classical in
/-- What PoseAt answers. -/
noncomputable def poseA (c : ClipD) (f : Int) : List Int × Bool := if ClipP c ∧ (0 ≤ f ∧ f < c.1) then (c.2.1.map (fun d => atK d.2 f), true) else ([], false)
theorem pose_no {c : ClipD} {f : Int} (h : ¬ (ClipP c ∧ (0 ≤ f ∧ f < c.1))) : poseA c f = ([], false) := if_neg h
theorem pose_yes {c : ClipD} {f : Int} (h : ClipP c ∧ (0 ≤ f ∧ f < c.1)) : poseA c f = (c.2.1.map (fun d => atK d.2 f), true) := if_pos h
theorem pose_len (c : ClipD) (f : Int) : (poseA c f).1.length ≤ 8 := by
  by_cases h : ClipP c ∧ (0 ≤ f ∧ f < c.1)
  · rw [pose_yes h]; simp only [List.length_map]; exact h.1.2.1.1
  · rw [pose_no h]; simp
theorem map_snoc {α β : Type} {l : List α} {g : α → β} {j : Nat} {d : α} (h : l[j]? = some d) : (l.take (j + 1)).map g = (l.take j).map g ++ [g d] := by rw [take_snoc h]; simp

end Go.Proofs.Ytpnplfngglfpoaa
