/-
  At every text the program's FormsOf answers what the specification's FormsOf answers, and its answer owns its memory.
-/
import Derived.Test.YtkldfeicpenkmaaRows
import Derived.Test.YtkldfeicpenkmaaSPl19
import Derived.Test.YtkldfeicpenkmaaTong19
import Derived.ChangeMaps
namespace Go.Proofs.Ytkldfeicpenkmaa.fnExactFormsOf
open Go.ChangeShapes Go.WideShapes Go.ChangeAt Go.RowKit
set_option linter.unusedVariables false

theorem own : ownKnob Try.prog.godebug = none := by kernel_rfl

set_option maxRecDepth 100000 in
set_option maxHeartbeats 8000000 in
theorem walk (s : ByteArray) (R : List Int) (w : World) (hlen : s.size ≤ 1048576) (hR : R.length ≤ 10)
    (hS : ∀ W, Calls Try.prog 9 #[.string s] W fun e w' => ∃ v', e = .returned v' ∧ NumO w' W.heap.size w'.heap.size v' R ∧ Kept W w') (hI : ∀ W, Calls Try.prog 10 #[.string s] W fun e w' => ∃ v', e = .returned v' ∧ NumO w' W.heap.size w'.heap.size v' R ∧ Kept W w') :
    Calls Try.prog 4 #[.string s] w fun e w' => e = .returned (.bool true) ∧ Kept w w' := by
  have HS : Hid (∀ W, Calls Try.prog 9 #[.string s] W fun e w' => ∃ v', e = .returned v' ∧ NumO w' W.heap.size w'.heap.size v' R ∧ Kept W w') := hS
  have HI : Hid (∀ W, Calls Try.prog 10 #[.string s] W fun e w' => ∃ v', e = .returned v' ∧ NumO w' W.heap.size w'.heap.size v' R ∧ Kept W w') := hI
  clear hS hI
  have hd : decide ((1048576 : Int) < (s.size : Int)) = false := decide_eq_false (by omega)
  obtain ⟨qd, hHD⟩ : ∃ q : Nat, 1 + R.length = q := ⟨_, rfl⟩
  have HD : Hid (1 + R.length = qd) := hHD
  have bHD : qd ≤ 200000000 := by omega
  have dHD : decide ((qd : Int) < 0) = false := by simp
  clear hHD
  go_enter Try.func4, Try.ntmps4
  repeat (first | go_values | go_skip | go_guarded | go_step | go_upon)
  go_at_call 9
  refine (HS.out _).mono ?_
  rintro e u1 ⟨v1, rfl, ow, k1⟩
  have K1 := k1
  have s1 := k1.size
  clear k1
  obtain ⟨ao1, cap1, hfm⟩ := ow.form
  subst hfm
  dsimp only
  repeat (first | go_values | go_skip | go_guarded | go_step | go_upon)
  go_at_call 10
  refine (HI.out _).mono ?_
  rintro e u2 ⟨v2, rfl, og, k2⟩
  have K2 := K1.trans k2
  have ow := ow.kept k2
  have s2 := k2.size
  clear k2 K1
  obtain ⟨ao2, cap2, hfm⟩ := og.form
  subst hfm
  dsimp only
  repeat (first | go_values | go_skip | go_guarded | go_step | go_upon)
  go_at_call 11
  refine (eqNumS R _ _ _ og.at ow.at (by omega)).mono ?_
  rintro e u3 ⟨rfl, k3⟩
  have K3 := K2.trans k3
  have ow := ow.kept k3
  have og := og.kept k3
  have s3 := k3.size
  clear k3 K2
  dsimp only
  repeat (first | go_values | go_skip | go_guarded | go_step | go_upon)
  go_at_call 12
  refine (markNumS R _ 1 u1.heap.size u2.heap.size _ og (by omega)).mono ?_
  rintro e u4 ⟨rfl, og2, b4⟩
  rw [HD.out]
  have k4 := b4.inner og
  have K4 := K3.onto k4 (by omega)
  have ow := ow.but k4 (by omega)
  have s4 := k4.size
  clear b4 k4 K3 og
  dsimp only
  repeat (first | go_values | go_skip | go_guarded | go_step | go_upon)
  go_at_call 13
  refine (heldNumS R.length _ 1 _ og2.at (by omega)).mono ?_
  rintro e u5 ⟨rfl, k5⟩
  rw [HD.out]
  have K5 := K4.trans k5
  have ow := ow.kept k5
  have og2 := og2.kept k5
  have s5 := k5.size
  clear k5 K4
  dsimp only
  repeat (first | go_values | go_skip | go_guarded | go_step | go_upon)
  go_at_call 10
  refine (HI.out _).mono ?_
  rintro e u6 ⟨v6, rfl, oh, k6⟩
  have K6 := K5.trans k6
  have ow := ow.kept k6
  have og2 := og2.kept k6
  have s6 := k6.size
  clear k6 K5
  obtain ⟨ao6, cap6, hfm⟩ := oh.form
  subst hfm
  dsimp only
  repeat (first | go_values | go_skip | go_guarded | go_step | go_upon)
  go_at_call 11
  refine (eqNumS R _ _ _ oh.at ow.at (by omega)).mono ?_
  rintro e u7 ⟨rfl, k7⟩
  have K7 := K6.trans k7
  have ow := ow.kept k7
  have og2 := og2.kept k7
  have oh := oh.kept k7
  have s7 := k7.size
  clear k7 K6
  clear oh ow
  dsimp only
  repeat (first | go_values | go_skip | go_guarded | go_step | go_upon)
  go_at_call 13
  refine (heldNumS R.length _ 1 _ og2.at (by omega)).mono ?_
  rintro e u8 ⟨rfl, k8⟩
  rw [HD.out]
  have K8 := K7.trans k8
  have og2 := og2.kept k8
  have s8 := k8.size
  clear k8 K7
  dsimp only
  repeat (first | go_values | go_skip | go_guarded | go_step | go_upon)
  go_ret
  exact ⟨rfl, K8⟩
set_option maxRecDepth 100000 in
set_option maxHeartbeats 8000000 in
theorem big (s : ByteArray) (w : World) (hm : s.size ≤ maxLen) (hlen : 1048576 < s.size) :
    Calls Try.prog 4 #[.string s] w fun e w' => e = .returned (.bool true) ∧ Kept w w' := by
  unfold maxLen at hm
  have hd : decide ((1048576 : Int) < (s.size : Int)) = true := decide_eq_true (by omega)
  go_enter Try.func4, Try.ntmps4
  repeat (first | go_values | go_skip | go_guarded | go_step | go_upon)
  go_ret
  exact ⟨rfl, But.refl _ _ _⟩
theorem all (s : ByteArray) (hm : s.size ≤ maxLen) (w : World) (w' : World) (_ : w' = w) :
    Calls Try.prog 4 #[.string s] w fun e w' => e = .returned (.bool true) ∧ Kept w w' := by
  by_cases hl : s.size ≤ 1048576
  case neg => exact big s w hm (by omega)
  by_cases h_ar : s.toList = [97, 114]
  · exact walk s _ w hl (by simp) (fun W => g_ar s h_ar W) (fun W => f_ar s h_ar W)
  by_cases h_cs : s.toList = [99, 115]
  · exact walk s _ w hl (by simp) (fun W => g_cs s h_cs W) (fun W => f_cs s h_cs W)
  by_cases h_en : s.toList = [101, 110]
  · exact walk s _ w hl (by simp) (fun W => g_en s h_en W) (fun W => f_en s h_en W)
  by_cases h_fr : s.toList = [102, 114]
  · exact walk s _ w hl (by simp) (fun W => g_fr s h_fr W) (fun W => f_fr s h_fr W)
  by_cases h_ja : s.toList = [106, 97]
  · exact walk s _ w hl (by simp) (fun W => g_ja s h_ja W) (fun W => f_ja s h_ja W)
  by_cases h_pl : s.toList = [112, 108]
  · exact walk s _ w hl (by simp) (fun W => g_pl s h_pl W) (fun W => f_pl s h_pl W)
  by_cases h_ru : s.toList = [114, 117]
  · exact walk s _ w hl (by simp) (fun W => g_ru s h_ru W) (fun W => f_ru s h_ru W)
  exact walk s _ w hl (by simp) (fun W => g_no s h_ar h_cs h_en h_fr h_ja h_pl h_ru W) (fun W => f_no s h_ar h_cs h_en h_fr h_ja h_pl h_ru W)


set_option maxRecDepth 100000 in
theorem lifted (os : Os) (started : os.Started) (H : Type) (enc : TypeId × Value → H) :
    ReturnsInHanded {} Try.checked os 4 .any (Rows.fnExactFormsOfSpec.pre6 enc Try.prog Try.f4 Rows.fnExactFormsOfRow.domain false) (Rows.fnExactFormsOfSpec.post enc Try.prog Try.f4 false true false false) := by
  refine returnsInHanded_of_change (C := Try.checked) own started (by kernel_rfl) Try.func4
    (ChangeSpec.witness6 (enc := enc) (C := Try.checked) false ⟨#[], #[.string ByteArray.empty], []⟩ 8 (by kernel_rfl) (by kernel_rfl) (by kernel_rfl) (by kernel_rfl)) ?_
  intro W base args ds gs before hval0 hW hcnd _
  have hval : ∀ (j : Nat) t v, Try.f4.params[j]? = some t → args[j]? = some v → Value.okWide Try.prog W .any base t v := hval0
  have hW' := hW
  obtain ⟨p, q, hA0, hV, rfl, hfz, hnd⟩ := hW
  have hA : DataW.TrodAll enc Try.prog W 0 (fun _ => true) true Try.f4.params.toList args.toList ds p := hA0
  rw [Try.params4] at hA hval
  obtain ⟨v0, vs0, d0, ds0, p0, q0, hargs, rfl, rfl, h0, r0⟩ := trodAll_cons hA
  obtain ⟨rfl, rfl, rfl⟩ := trodAll_nil r0
  obtain rfl : args = #[v0] := by cases args; simp_all
  obtain ⟨rfl, rfl⟩ := trodVars_none hV
  obtain ⟨a0, rfl, rfl, rfl, w0⟩ := Go.ChangeMaps.open_string Try.underlying9 (hval 0 9 v0 rfl rfl) h0
  clear hA0 hval0
  simp only [List.append_nil] at hW'
  refine (all a0 w0 W W rfl).mono fun e W' ⟨he, hg⟩ => ?_
  subst he
  exact ⟨_, rfl, post_of_kept (pa := _) (pv := []) hW' (fun _ _ _ => (trodAll_cons_mk (shut_bool Try.underlying4 _) trodAll_mk0)) (fun sp hsp => (trodAll_cons_mk (Go.ChangeMaps.shut_string Try.underlying9 w0) trodAll_mk0)) (fun _ _ => rfl) hg⟩

theorem over : Rows.fnExactFormsOfRow.holds Try.pinned (OpenSpec.ofChange Rows.fnExactFormsOfSpec) :=
  OpenClaim.holds_of_wide 4 Try.f4 rfl rfl rfl rfl rfl rfl rfl ⟨rfl, rfl, rfl, rfl, rfl⟩ rfl rfl rfl rfl rfl (by kernel_rfl) Try.func4 (by kernel_rfl)
    (of_decide_eq_true (by kernel_rfl)) (by unfold Func.isWrapper; first | (rw [if_pos (by decide +kernel)]; kernel_rfl) | (rw [if_neg (by decide +kernel)]; exact ⟨rfl, rfl⟩))
    (fun os started H enc _ => lifted os started H enc)

theorem proved : Rows.FnExactFormsOfSaid :=
  over
#print axioms proved
end Go.Proofs.Ytkldfeicpenkmaa.fnExactFormsOf
