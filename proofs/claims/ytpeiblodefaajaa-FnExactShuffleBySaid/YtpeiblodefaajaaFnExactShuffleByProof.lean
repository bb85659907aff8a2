/-
  At every two ints the program's ShuffleBy answers what the specification's ShuffleBy answers; its answer owns its memory.
-/
import Derived.Test.YtpeiblodefaajaaRows
import Derived.Test.YtpeiblodefaajaaShufS12
import Derived.Test.YtpeiblodefaajaaShufI12
import Derived.Test.YtpeiblodefaajaaNumM
import Derived.Test.YtpeiblodefaajaaText
import Derived.ChangeMaps
namespace Go.Proofs.Ytpeiblodefaajaa.fnExactShuffleBy
open Go.ChangeShapes Go.WideShapes Go.ChangeAt Go.RowKit
set_option linter.unusedVariables false

theorem own : ownKnob Try.prog.godebug = none := by kernel_rfl

set_option maxRecDepth 100000 in
set_option maxHeartbeats 8000000 in
theorem walk (m sd : Int) (w : World) :
    Calls Try.prog 6 #[.int .i64 m, .int .i64 sd] w fun e w' => e = .returned (.bool true) ∧ Kept w w' := by
  obtain ⟨⟨R, z, J⟩, hJ⟩ : ∃ j, shufA m sd = j := ⟨_, rfl⟩
  have hRl : R.length ≤ 60 := by have := shufA_len m sd; rw [hJ] at this; exact this
  have HJ : Hid (shufA m sd = (R, z, J)) := hJ
  clear hJ
  obtain ⟨q, hq⟩ : ∃ q : Nat, 1 + R.length = q := ⟨_, rfl⟩
  have HQ : Hid (1 + R.length = q) := hq
  have hdq : decide ((q : Int) < 0) = false := by simp
  clear hq
  go_enter Try.func6, Try.ntmps6
  repeat (first | go_values | go_skip | go_guarded | go_step | go_upon)
  go_at_call 20
  refine (sshuf m sd _).mono ?_
  rintro e u1 ⟨v1, rfl, ow, k1⟩
  rw [HJ.out] at ow ⊢
  obtain ⟨ao1, cap1, hfm⟩ := ow.form
  subst hfm
  dsimp only
  repeat (first | go_values | go_skip | go_guarded | go_step | go_upon)
  go_at_call 21
  refine (ishuf m sd _).mono ?_
  rintro e u2 ⟨v2, rfl, og, k2⟩
  rw [HJ.out] at og ⊢
  have K2 := k1.trans k2
  have ow := ow.kept k2
  have s1 := k1.size
  have s2 := k2.size
  clear k1 k2
  obtain ⟨ao2, cap2, hfm⟩ := og.form
  subst hfm
  dsimp only
  repeat (first | go_values | go_skip | go_guarded | go_step | go_upon)
  go_at_call 19
  refine (eqNumS R _ _ _ og.at ow.at (by omega)).mono ?_
  rintro e u3 ⟨rfl, k3⟩
  have K3 := K2.trans k3
  have ow := ow.kept k3
  have og := og.kept k3
  have s3 := k3.size
  clear k3 K2
  dsimp only
  repeat (first | go_values | go_skip | go_guarded | go_step | go_upon)
  go_at_call 22
  refine (markNumS R _ 1 u1.heap.size u2.heap.size _ og (by omega)).mono ?_
  rintro e u4 ⟨rfl, o4, b4⟩
  rw [HQ.out]
  have k4 := b4.inner og
  have K4 := K3.onto k4 (by omega)
  have ow := ow.but k4 (by omega)
  have s4 := k4.size
  clear b4 k4 K3 og
  dsimp only
  repeat (first | go_values | go_skip | go_guarded | go_step | go_upon)
  go_at_call 23
  refine (heldNumS R.length _ 1 _ o4.at (by omega)).mono ?_
  rintro e u5 ⟨rfl, k5⟩
  rw [HQ.out]
  have K5 := K4.trans k5
  have ow := ow.kept k5
  have o4 := o4.kept k5
  clear k5 K4
  dsimp only
  repeat (first | go_values | go_skip | go_guarded | go_step | go_upon)
  go_at_call 21
  refine (ishuf m sd _).mono ?_
  rintro e u6 ⟨v6, rfl, oh, k6⟩
  rw [HJ.out] at oh ⊢
  have K6 := K5.trans k6
  have ow := ow.kept k6
  have o4 := o4.kept k6
  clear k6 K5
  obtain ⟨ao6, cap6, hfm⟩ := oh.form
  subst hfm
  dsimp only
  repeat (first | go_values | go_skip | go_guarded | go_step | go_upon)
  go_at_call 19
  refine (eqNumS R _ _ _ oh.at ow.at (by omega)).mono ?_
  rintro e u7 ⟨rfl, k7⟩
  have K7 := K6.trans k7
  have o4 := o4.kept k7
  clear k7 K6
  dsimp only
  repeat (first | go_values | go_skip | go_guarded | go_step | go_upon)
  go_at_call 23
  refine (heldNumS R.length _ 1 _ o4.at (by omega)).mono ?_
  rintro e u8 ⟨rfl, k8⟩
  rw [HQ.out]
  have K8 := K7.trans k8
  dsimp only
  repeat (first | go_values | go_skip | go_guarded | go_step | go_upon)
  go_ret
  exact ⟨rfl, K8⟩

theorem all (m sd : Int) (w : World) :
    Calls Try.prog 6 #[.int .i64 m, .int .i64 sd] w fun e w' => e = .returned (.bool true) ∧ Kept w w' := walk m sd w


set_option maxRecDepth 100000 in
theorem lifted (os : Os) (started : os.Started) (H : Type) (enc : TypeId × Value → H) :
    ReturnsInHanded {} Try.checked os 6 .any (Rows.fnExactShuffleBySpec.pre6 enc Try.prog Try.f6 Rows.fnExactShuffleByRow.domain false) (Rows.fnExactShuffleBySpec.post enc Try.prog Try.f6 false true false false) := by
  refine returnsInHanded_of_change (C := Try.checked) own started (by kernel_rfl) Try.func6
    (ChangeSpec.witness6 (enc := enc) (C := Try.checked) false ⟨#[], #[.int .i64 0, .int .i64 0], []⟩ 8 (by kernel_rfl) (by kernel_rfl) (by kernel_rfl) (by kernel_rfl)) ?_
  intro W base args ds gs before hval0 hW hcnd _
  have hval : ∀ (j : Nat) t v, Try.f6.params[j]? = some t → args[j]? = some v → Value.okWide Try.prog W .any base t v := hval0
  have hW' := hW
  obtain ⟨p, q, hA0, hV, rfl, hfz, hnd⟩ := hW
  have hA : DataW.TrodAll enc Try.prog W 0 (fun _ => true) true Try.f6.params.toList args.toList ds p := hA0
  rw [Try.params6] at hA hval
  obtain ⟨v0, vs0, d0, ds0, p0, q0, hargs, rfl, rfl, h0, r0⟩ := trodAll_cons hA
  obtain ⟨v1, vs1, d1, ds1, p1, q1, rfl, rfl, rfl, h1, r1⟩ := trodAll_cons r0
  obtain ⟨rfl, rfl, rfl⟩ := trodAll_nil r1
  obtain rfl : args = #[v0, v1] := by cases args; simp_all
  obtain ⟨rfl, rfl⟩ := trodVars_none hV
  obtain ⟨a0, rfl, rfl, rfl, w0⟩ := open_int Try.underlying3 (hval 0 3 v0 rfl rfl) h0
  obtain ⟨a1, rfl, rfl, rfl, w1⟩ := open_int Try.underlying3 (hval 1 3 v1 rfl rfl) h1
  clear hA0 hval0
  simp only [List.append_nil] at hW'
  refine (all a0 a1 W).mono fun e W' ⟨he, hg⟩ => ?_
  subst he
  exact ⟨_, rfl, post_of_kept (pa := _) (pv := []) hW' (fun _ _ _ => (trodAll_cons_mk (shut_bool Try.underlying4 _) trodAll_mk0)) (fun sp hsp => (trodAll_cons_mk (shut_int Try.underlying3 w0) (trodAll_cons_mk (shut_int Try.underlying3 w1) trodAll_mk0))) (fun _ _ => rfl) hg⟩

theorem over : Rows.fnExactShuffleByRow.holds Try.pinned (OpenSpec.ofChange Rows.fnExactShuffleBySpec) :=
  OpenClaim.holds_of_wide 6 Try.f6 rfl rfl rfl rfl rfl rfl rfl ⟨rfl, rfl, rfl, rfl, rfl⟩ rfl rfl rfl rfl rfl (by kernel_rfl) Try.func6 (by kernel_rfl)
    (of_decide_eq_true (by kernel_rfl)) (by unfold Func.isWrapper; first | (rw [if_pos (by decide +kernel)]; kernel_rfl) | (rw [if_neg (by decide +kernel)]; exact ⟨rfl, rfl⟩))
    (fun os started H enc _ => lifted os started H enc)

theorem proved : Rows.FnExactShuffleBySaid :=
  over
#print axioms proved
end Go.Proofs.Ytpeiblodefaajaa.fnExactShuffleBy
