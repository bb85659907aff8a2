/-
  Whether a voice is good.
-/
import Derived.Test.YtapfafibhjpkdaaVoiceW
import Derived.Test.YtapfafibhjpkdaaGoodV15
import Derived.Test.YtapfafibhjpkdaaGoodVS15
namespace Go.Proofs.Ytapfafibhjpkdaa
open Go.ChangeShapes Go.WideShapes Go.ChangeAt Go.RowKit

set_option maxRecDepth 100000
set_option linter.unusedVariables false

def VoiceQ (d : VoiceD) : Prop := VoiceP d.1 d.2.1 d.2.2.2.1 d.2.2.2.2.1 d.2.2.2.2.2
theorem igoodW (v : Value) (d : VoiceD) (w : World) (hv : VAt w v d) (hn : d.1.length ≤ 1048576) :
    Calls Try.prog 12 #[v] w fun e w' => e = .returned (.bool (dec (VoiceQ d))) ∧ Kept w w' := by
  obtain ⟨s, rfl, h⟩ := hv
  exact igoodV s d.1 _ _ _ _ _ w h hn
theorem sgoodW (v : Value) (d : VoiceD) (w : World) (hv : VAt w v d) (hn : d.1.length ≤ 1048576) :
    Calls Try.prog 10 #[v] w fun e w' => e = .returned (.bool (dec (VoiceQ d))) ∧ Kept w w' := by
  obtain ⟨s, rfl, h⟩ := hv
  exact sgoodV s d.1 _ _ _ _ _ w h hn

end Go.Proofs.Ytapfafibhjpkdaa
