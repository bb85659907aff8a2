/-
  Lists of entries that came in, opened.
-/
import Derived.Test.YtgbgnmjgnfocmaaEntries
import Derived.Test.YtgbgnmjgnfocmaaEntryO
namespace Go.Proofs.Ytgbgnmjgnfocmaa
open Go.ChangeShapes Go.WideShapes Go.ChangeAt Go.RowKit

set_option maxRecDepth 100000
set_option linter.unusedVariables false
section
open Go.Deep
variable {H : Type} {enc : TypeId × Value → H} {w : World} {base : Nat} {spare : Nat → Bool} {held : Bool}
theorem open_entries {v : Value} {d : DataW H} {ps : List MemPlace} {r : Reach} {b0 : Nat} (hval : Value.okWide Try.prog w r b0 22 v) (hd : DataW.Trod enc Try.prog w base spare held 22 v d ps) : ∃ l : List EntryD, EntriesAt w v l ∧ EntriesFit l ∧ l.length ≤ maxLen := by
  obtain ⟨ts, h, hf, hl⟩ := open_entryS hval hd
  exact ⟨ts.map stripEntry, ⟨ts, h, rfl⟩, entries_fit' hf, by simpa using hl⟩
end

end Go.Proofs.Ytgbgnmjgnfocmaa
