import Derived.Test.YtcljppnakmeldaaBack
import Derived.Test.YtcljppnakmeldaaTo
import Derived.Test.YtcljppnakmeldaaQuiet
import Derived.Test.YtcljppnakmeldaaEq
namespace Go.Proofs.Ytcljppnakmeldaa
open Go.ChangeShapes Go.WideShapes Go.ChangeAt Go.RowKit
theorem toSpotX (f0 : Int) (f1 : Int) (f2 : Int) (f3 : Bool) (w : World) :
    Calls Try.prog 28 #[.agg #[.int .i64 f0, .int .i64 f1, .int .i64 f2, .bool f3]] w fun e w' => e = .returned (.agg #[.int .i64 f0, .int .i64 f1, .int .i64 f2, .bool f3]) ∧ w' = ((w.alloc (.cells #[.int .i64 f0, .int .i64 f1, .int .i64 f2, .bool f3] 46)).alloc (.cells #[.int .i64 f0, .int .i64 f1, .int .i64 f2, .bool f3] 24)).alloc (.cells #[.int .i64 f0, .int .i64 f1, .int .i64 f2, .bool f3] 24) := by
  go_enter Try.func28, Try.ntmps28
  go_wp2
  refine bodyPost_ret (v := .agg #[.int .i64 f0, .int .i64 f1, .int .i64 f2, .bool f3]) (by simp [results, Try.results28, go_sem]) rfl ?_
  exact ⟨rfl, rfl⟩
theorem forget {P : Program} {C : Code} {Q : Exit → Act → World → Prop} {a : Act} {W : World} (F : World → Prop) (hF : F W) (h : ∀ W', F W' → Code.wp P C Q a W') : Code.wp P C Q a W := h W hF

end Go.Proofs.Ytcljppnakmeldaa
