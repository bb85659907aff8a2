/-
  Boxes and placed ones as they must be; free of the program.
-/
import Derived.Test.YtaofilinejanjaaLeaf18
import Derived.Test.YtaofilinejanjaaBox
import Derived.Test.YtaofilinejanjaaPlaced
namespace Go.Proofs.Ytaofilinejanjaa
open Go.ChangeShapes Go.WideShapes Go.ChangeAt Go.RowKit

set_option maxRecDepth 100000
set_option linter.unusedVariables false

/-- A box at a place of the list, as it must be. -/
def BoxOk (l : List BoxD) (j : Nat) : Prop := ∀ d, l[j]? = some d → (j = 0 → d.1 = -1) ∧ (0 < j → 0 ≤ d.1 ∧ d.1 ≤ (j : Int) - 1) ∧ (1 ≤ d.2.1 ∧ d.2.1 ≤ 2) ∧ (0 ≤ d.2.2.1 ∧ d.2.2.1 ≤ 10000) ∧ (0 ≤ d.2.2.2.1 ∧ d.2.2.2.1 ≤ 1000) ∧ (0 ≤ d.2.2.2.2 ∧ d.2.2.2.2 ≤ 100)
def BoxesP (l : List BoxD) : Prop := 1 ≤ l.length ∧ l.length ≤ 40 ∧ ∀ j, j < l.length → BoxOk l j
def PlOk (d : PlacedD) : Prop := (0 ≤ d.1 ∧ d.1 ≤ 40000) ∧ (0 ≤ d.2.1 ∧ d.2.1 ≤ 40000) ∧ (0 ≤ d.2.2.1 ∧ d.2.2.1 ≤ 40000) ∧ (0 ≤ d.2.2.2 ∧ d.2.2.2 ≤ 40000)

end Go.Proofs.Ytaofilinejanjaa
