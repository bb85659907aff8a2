/-
  PushLine of the specification.
-/
import Derived.Test.YthpjjpgahmkpdaaSPush10
namespace Go.Proofs.Ythpjjpgahmkpdaa
open Go.ChangeShapes Go.WideShapes Go.ChangeAt Go.RowKit

set_option maxRecDepth 100000
set_option linter.unusedVariables false
set_option linter.unusedSimpArgs false

set_option maxHeartbeats 2000000 in
theorem spushline (ps : List BodyD) (bo ro : Int) (v : Value) (w : World) (hv : BodyAt w v ps) (hn : ps.length ≤ 1048576) :
    Calls Try.prog 14 #[v, .int .i64 bo, .int .i64 ro] w (PushR (pushA ps bo ro) w) := by
  obtain ⟨ao, cap, hsl⟩ := row_nil hv
  subst hsl
  go_enter Try.func14, Try.ntmps14
  repeat (first | go_values | go_skip | go_guarded | go_step | go_upon)
  go_at_call 59
  refine (spush ps bo ro _ _ hv hn).mono ?_
  rintro e w1 ⟨v1, rfl, o1, k1⟩
  obtain ⟨ao1, cap1, hf1⟩ := o1.form
  subst hf1
  dsimp only
  repeat (first | go_values | go_skip | go_guarded | go_step | go_upon)
  refine bodyPost_ret (v := .tuple #[.slice ao1 (lst (pushA ps bo ro)).length cap1, .bool (pushA ps bo ro).isSome]) (by simp [results, Try.results14, go_sem]) rfl ?_
  exact ⟨_, rfl, o1, k1⟩

end Go.Proofs.Ythpjjpgahmkpdaa
