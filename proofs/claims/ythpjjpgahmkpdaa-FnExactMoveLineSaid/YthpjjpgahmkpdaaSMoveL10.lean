/-
  MoveLine of the specification.
-/
import Derived.Test.YthpjjpgahmkpdaaSMove10
namespace Go.Proofs.Ythpjjpgahmkpdaa
open Go.ChangeShapes Go.WideShapes Go.ChangeAt Go.RowKit

set_option maxRecDepth 100000
set_option linter.unusedVariables false
set_option linter.unusedSimpArgs false

theorem moveA_len (ps : List BodyD) (t : Int) : (lst (moveA ps t)).length ≤ 100000000 := by
  unfold moveA
  split
  · rename_i h
    have h1 := h.1.1
    simp only [lst, Option.getD_some, leftL_len, rightL_len, List.length_map]
    omega
  · simp [lst]
theorem stepA_len (ps : List BodyD) (bo ro t : Int) : (lst (stepA ps bo ro t)).length ≤ 100000000 := by
  unfold stepA
  split
  · simp [lst]
  · exact moveA_len _ _

set_option maxHeartbeats 2000000 in
theorem smoveline (ps : List BodyD) (t : Int) (v : Value) (w : World) (hv : BodyAt w v ps) (hn : ps.length ≤ 1048576) :
    Calls Try.prog 17 #[v, .int .i64 t] w (PushR (moveA ps t) w) := by
  obtain ⟨ao, cap, hsl⟩ := row_nil hv
  subst hsl
  go_enter Try.func17, Try.ntmps17
  repeat (first | go_values | go_skip | go_guarded | go_step | go_upon)
  go_at_call 65
  refine (smove ps t _ _ hv hn).mono ?_
  rintro e w1 ⟨v1, rfl, o1, k1⟩
  obtain ⟨ao1, cap1, hf1⟩ := o1.form
  subst hf1
  dsimp only
  repeat (first | go_values | go_skip | go_guarded | go_step | go_upon)
  refine bodyPost_ret (v := .tuple #[.slice ao1 (lst (moveA ps t)).length cap1, .bool (moveA ps t).isSome]) (by simp [results, Try.results17, go_sem]) rfl ?_
  exact ⟨_, rfl, o1, k1⟩

end Go.Proofs.Ythpjjpgahmkpdaa
