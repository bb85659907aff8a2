/-
  Lists of binds that came in, opened.
-/
import Derived.Test.YthkfpbknfjapaaaBinds
import Derived.Test.YthkfpbknfjapaaaBindO
namespace Go.Proofs.Ythkfpbknfjapaaa
open Go.ChangeShapes Go.WideShapes Go.ChangeAt Go.RowKit

set_option maxRecDepth 100000
set_option linter.unusedVariables false
section
open Go.Deep
variable {H : Type} {enc : TypeId × Value → H} {w : World} {base : Nat} {spare : Nat → Bool} {held : Bool}
theorem open_binds {v : Value} {d : DataW H} {ps : List MemPlace} {r : Reach} {b0 : Nat} (hval : Value.okWide Try.prog w r b0 33 v) (hd : DataW.Trod enc Try.prog w base spare held 33 v d ps) : ∃ l : List BindD, BindsAt w v l ∧ BindsFit l ∧ l.length ≤ maxLen := by
  obtain ⟨ts, h, hf, hl⟩ := open_bindS hval hd
  exact ⟨ts.map stripBind, ⟨ts, h, rfl⟩, binds_fit' hf, by simpa using hl⟩
end

end Go.Proofs.Ythkfpbknfjapaaa
