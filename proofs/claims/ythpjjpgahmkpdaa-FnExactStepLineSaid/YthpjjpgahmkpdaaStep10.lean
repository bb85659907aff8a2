/-
  StepLine, in the program and in its specification.
-/
import Derived.Test.YthpjjpgahmkpdaaSMoveL10
import Derived.Test.YthpjjpgahmkpdaaIMove10
import Derived.Test.YthpjjpgahmkpdaaPLine10
namespace Go.Proofs.Ythpjjpgahmkpdaa
open Go.ChangeShapes Go.WideShapes Go.ChangeAt Go.RowKit

set_option maxRecDepth 100000
set_option linter.unusedVariables false
set_option linter.unusedSimpArgs false

set_option maxHeartbeats 4000000 in
theorem sstep (ps : List BodyD) (bo ro t : Int) (v : Value) (w : World) (hv : BodyAt w v ps) (hn : ps.length ≤ 1048576) :
    Calls Try.prog 34 #[v, .int .i64 bo, .int .i64 ro, .int .i64 t] w (PushR (stepA ps bo ro t) w) := by
  obtain ⟨ao, cap, hsl⟩ := row_nil hv
  subst hsl
  have hpu := spush ps bo ro _ w hv hn
  have hst : stepA ps bo ro t = match pushA ps bo ro with | none => none | some qs => moveA qs t := rfl
  have hlen := fun qs h => (pushA_len (ps := ps) (bo := bo) (ro := ro) (qs := qs) h).1
  cases hp : pushA ps bo ro with
  | none =>
    rw [hp] at hpu hst
    have HP : Hid (Calls Try.prog 59 #[.slice ao ps.length cap, .int .i64 bo, .int .i64 ro] w (PushR none w)) := hpu
    have HST : Hid (stepA ps bo ro t = none) := hst
    clear hpu hst hlen hp
    go_enter Try.func34, Try.ntmps34
    repeat (first | go_values | go_skip | go_guarded | go_step | go_upon)
    go_at_call 59
    refine Calls.mono HP.out ?_
    rintro e w1 ⟨v1, rfl, o1, k1⟩
    obtain ⟨ao1, cap1, hf1⟩ := o1.form
    subst hf1
    dsimp only [Option.isSome]
    repeat (first | go_values | go_skip | go_guarded | go_step | go_upon)
    refine bodyPost_ret (v := .tuple #[.slice none 0 0, .bool false]) (by simp [results, Try.results34, go_sem]) rfl ?_
    rw [HST.out]
    exact pushR_none rfl k1
  | some qs =>
    rw [hp] at hpu hst
    have hql := hlen qs hp
    have HP : Hid (Calls Try.prog 59 #[.slice ao ps.length cap, .int .i64 bo, .int .i64 ro] w (PushR (some qs) w)) := hpu
    have HST : Hid (stepA ps bo ro t = moveA qs t) := hst
    clear hpu hst hlen hp
    go_enter Try.func34, Try.ntmps34
    repeat (first | go_values | go_skip | go_guarded | go_step | go_upon)
    go_at_call 59
    refine Calls.mono HP.out ?_
    rintro e w1 ⟨v1, rfl, o1, k1⟩
    have o1 : BodyO w1 w.heap.size w1.heap.size v1 qs := o1
    obtain ⟨ao1, cap1, hf1⟩ := o1.form
    subst hf1
    have HMV : Hid (Calls Try.prog 65 #[.slice ao1 qs.length cap1, .int .i64 t] w1 (PushR (moveA qs t) w1)) := smove qs t _ w1 o1.at (by omega)
    have hs1 := k1.size
    clear o1
    dsimp only [Option.isSome]
    repeat (first | go_values | go_skip | go_guarded | go_step | go_upon)
    go_at_call 65
    refine Calls.mono HMV.out ?_
    rintro e w2 ⟨v2, rfl, o2, k2⟩
    obtain ⟨ao2, cap2, hf2⟩ := o2.form
    subst hf2
    dsimp only
    repeat (first | go_values | go_skip | go_guarded | go_step | go_upon)
    refine bodyPost_ret (v := .tuple #[.slice ao2 (lst (moveA qs t)).length cap2, .bool (moveA qs t).isSome]) (by simp [results, Try.results34, go_sem]) rfl ?_
    rw [HST.out]
    exact ⟨_, rfl, o2.mono hs1 (Nat.le_refl _), k1.trans k2⟩

set_option maxHeartbeats 4000000 in
theorem istep (ps : List BodyD) (bo ro t : Int) (v : Value) (w : World) (hv : BodyAt w v ps) (hn : ps.length ≤ 1048576) :
    Calls Try.prog 20 #[v, .int .i64 bo, .int .i64 ro, .int .i64 t] w (PushR (stepA ps bo ro t) w) := by
  obtain ⟨ao, cap, hsl⟩ := row_nil hv
  subst hsl
  have hpu := ipushline ps bo ro _ w hv hn
  have hst : stepA ps bo ro t = match pushA ps bo ro with | none => none | some qs => moveA qs t := rfl
  have hlen := fun qs h => (pushA_len (ps := ps) (bo := bo) (ro := ro) (qs := qs) h).1
  cases hp : pushA ps bo ro with
  | none =>
    rw [hp] at hpu hst
    have HP : Hid (Calls Try.prog 13 #[.slice ao ps.length cap, .int .i64 bo, .int .i64 ro] w (PushR none w)) := hpu
    have HST : Hid (stepA ps bo ro t = none) := hst
    clear hpu hst hlen hp
    go_enter Try.func20, Try.ntmps20
    repeat (first | go_values | go_skip | go_guarded | go_step | go_upon)
    go_at_call 13
    refine Calls.mono HP.out ?_
    rintro e w1 ⟨v1, rfl, o1, k1⟩
    obtain ⟨ao1, cap1, hf1⟩ := o1.form
    subst hf1
    dsimp only [Option.isSome]
    repeat (first | go_values | go_skip | go_guarded | go_step | go_upon)
    refine bodyPost_ret (v := .tuple #[.slice none 0 0, .bool false]) (by simp [results, Try.results20, go_sem]) rfl ?_
    rw [HST.out]
    exact pushR_none rfl k1
  | some qs =>
    rw [hp] at hpu hst
    have hql := hlen qs hp
    have HP : Hid (Calls Try.prog 13 #[.slice ao ps.length cap, .int .i64 bo, .int .i64 ro] w (PushR (some qs) w)) := hpu
    have HST : Hid (stepA ps bo ro t = moveA qs t) := hst
    clear hpu hst hlen hp
    go_enter Try.func20, Try.ntmps20
    repeat (first | go_values | go_skip | go_guarded | go_step | go_upon)
    go_at_call 13
    refine Calls.mono HP.out ?_
    rintro e w1 ⟨v1, rfl, o1, k1⟩
    have o1 : BodyO w1 w.heap.size w1.heap.size v1 qs := o1
    obtain ⟨ao1, cap1, hf1⟩ := o1.form
    subst hf1
    have HMV : Hid (Calls Try.prog 16 #[.slice ao1 qs.length cap1, .int .i64 t] w1 (PushR (moveA qs t) w1)) := imove qs t _ w1 o1.at (by omega)
    have hs1 := k1.size
    clear o1
    dsimp only [Option.isSome]
    repeat (first | go_values | go_skip | go_guarded | go_step | go_upon)
    go_at_call 16
    refine Calls.mono HMV.out ?_
    rintro e w2 ⟨v2, rfl, o2, k2⟩
    obtain ⟨ao2, cap2, hf2⟩ := o2.form
    subst hf2
    dsimp only
    repeat (first | go_values | go_skip | go_guarded | go_step | go_upon)
    refine bodyPost_ret (v := .tuple #[.slice ao2 (lst (moveA qs t)).length cap2, .bool (moveA qs t).isSome]) (by simp [results, Try.results20, go_sem]) rfl ?_
    rw [HST.out]
    exact ⟨_, rfl, o2.mono hs1 (Nat.le_refl _), k1.trans k2⟩

end Go.Proofs.Ythpjjpgahmkpdaa
