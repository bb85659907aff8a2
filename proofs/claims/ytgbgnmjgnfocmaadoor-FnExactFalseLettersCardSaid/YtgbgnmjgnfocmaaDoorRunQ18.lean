/-
  What RunesOf answers; free of the program.
-/
import Derived.Test.YtgbgnmjgnfocmaaDoorRunP18
namespace Go.Proofs.YtgbgnmjgnfocmaaDoor
open Go.ChangeShapes Go.WideShapes Go.ChangeAt Go.RowKit

set_option maxRecDepth 100000
set_option linter.unusedVariables false

/-- What RunesOf answers. -/
def runA (s : ByteArray) : List Int × Bool := if s.size ≤ 400 then (runesF s s.size 0, true) else ([], false)
theorem runA_no {s : ByteArray} (h : 400 < s.size) : runA s = ([], false) := if_neg (by omega)
theorem runA_yes {s : ByteArray} (h : s.size ≤ 400) : runA s = (runesF s s.size 0, true) := if_pos h
theorem runA_len (s : ByteArray) : (runA s).1.length ≤ 400 := by
  have h : ∀ b p, (runesF s b p).length ≤ b := fun b => by
    induction b with
    | zero => intro p; simp [runesF]
    | succ b ih =>
      intro p
      unfold runesF
      split
      · simp only [List.length_cons]; have := ih (p + (runM s p).2); omega
      · simp
  by_cases hs : s.size ≤ 400
  · rw [runA_yes hs]; have := h s.size 0; dsimp only; omega
  · rw [runA_no (by omega)]; simp

end Go.Proofs.YtgbgnmjgnfocmaaDoor
