/-
  Lists of voices that came in, opened.
-/
import Derived.Test.YtapfafibhjpkdaaVoices
import Derived.Test.YtapfafibhjpkdaaVoiceO
namespace Go.Proofs.Ytapfafibhjpkdaa
open Go.ChangeShapes Go.WideShapes Go.ChangeAt Go.RowKit

set_option maxRecDepth 100000
set_option linter.unusedVariables false
section
open Go.Deep
variable {H : Type} {enc : TypeId × Value → H} {w : World} {base : Nat} {spare : Nat → Bool} {held : Bool}
theorem open_voices {v : Value} {d : DataW H} {ps : List MemPlace} {r : Reach} {b0 : Nat} (hval : Value.okWide Try.prog w r b0 31 v) (hd : DataW.Trod enc Try.prog w base spare held 31 v d ps) : ∃ l : List VoiceD, VoicesAt w v l ∧ VoicesFit l ∧ l.length ≤ maxLen := by
  obtain ⟨ts, h, hf, hl⟩ := open_voiceS hval hd
  exact ⟨ts.map stripVoice, ⟨ts, h, rfl⟩, voices_fit' hf, by simpa using hl⟩
end

end Go.Proofs.Ytapfafibhjpkdaa
