/-
  Lists of sections that came in, opened.
-/
import Derived.Test.YtapfafibhjpkdaaDoorSecs
import Derived.Test.YtapfafibhjpkdaaDoorSectionO
namespace Go.Proofs.YtapfafibhjpkdaaDoor
open Go.ChangeShapes Go.WideShapes Go.ChangeAt Go.RowKit

set_option maxRecDepth 100000
set_option linter.unusedVariables false
section
open Go.Deep
variable {H : Type} {enc : TypeId × Value → H} {w : World} {base : Nat} {spare : Nat → Bool} {held : Bool}
theorem open_secs {v : Value} {d : DataW H} {ps : List MemPlace} {r : Reach} {b0 : Nat} (hval : Value.okWide Tryd.prog w r b0 22 v) (hd : DataW.Trod enc Tryd.prog w base spare held 22 v d ps) : ∃ l : List SectionD, SecsAt w v l ∧ SecsFit l ∧ l.length ≤ maxLen := by
  obtain ⟨ts, h, hf, hl⟩ := open_sectionS hval hd
  exact ⟨ts.map stripSection, ⟨ts, h, rfl⟩, secs_fit' hf, by simpa using hl⟩
end

end Go.Proofs.YtapfafibhjpkdaaDoor
