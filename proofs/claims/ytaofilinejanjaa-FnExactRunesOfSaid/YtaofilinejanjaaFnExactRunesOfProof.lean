/-
  At every text the program's RunesOf answers what the specification's RunesOf answers; its answer owns its memory.
-/
import Derived.Test.YtaofilinejanjaaRows
import Derived.Test.YtaofilinejanjaaNumM
import Derived.Test.YtaofilinejanjaaRunR18
import Derived.Test.YtaofilinejanjaaRunI18
import Derived.ChangeMaps
namespace Go.Proofs.Ytaofilinejanjaa.fnExactRunesOf
open Go.ChangeShapes Go.WideShapes Go.ChangeAt Go.RowKit
set_option linter.unusedVariables false

theorem own : ownKnob Try.prog.godebug = none := by kernel_rfl

set_option maxRecDepth 100000 in
set_option maxHeartbeats 8000000 in
theorem walk (s : ByteArray) (R : List NumD) (jb : Bool) (w : World) (hn : s.size ≤ 1048576) (hR : R.length ≤ 100000000)
    (hS : ∀ (u : World), Calls Try.prog 25 #[.string s] u fun e u' => ∃ v', e = .returned (.tuple #[v', .bool jb]) ∧ NumO u' u.heap.size u'.heap.size v' R ∧ Kept u u')
    (hI : ∀ (u : World), Calls Try.prog 26 #[.string s] u fun e u' => ∃ v', e = .returned (.tuple #[v', .bool jb]) ∧ NumO u' u.heap.size u'.heap.size v' R ∧ Kept u u') :
    Calls Try.prog 6 #[.string s] w fun e w' => e = .returned (.bool true) ∧ Kept w w' := by
  have hdl : decide ((1048576 : Int) < (s.size : Int)) = false := by simp; omega
  obtain ⟨qd, hHD⟩ : ∃ q : Nat, 1 + R.length = q := ⟨_, rfl⟩
  have HD : Hid (1 + R.length = qd) := hHD
  have bHD : qd ≤ 200000000 := by omega
  have dHD : decide ((qd : Int) < 0) = false := by simp
  clear hHD
  have HS : Hid (∀ (u : World), Calls Try.prog 25 #[.string s] u fun e u' => ∃ v', e = .returned (.tuple #[v', .bool jb]) ∧ NumO u' u.heap.size u'.heap.size v' R ∧ Kept u u') := hS
  have HI : Hid (∀ (u : World), Calls Try.prog 26 #[.string s] u fun e u' => ∃ v', e = .returned (.tuple #[v', .bool jb]) ∧ NumO u' u.heap.size u'.heap.size v' R ∧ Kept u u') := hI
  clear hS hI
  go_enter Try.func6, Try.ntmps6
  repeat (first | go_values | go_skip | go_guarded | go_step | go_upon)
  go_at_call 25
  refine (HS.out _).mono ?_
  rintro e u1 ⟨v1, rfl, ow, k1⟩
  have K1 := k1
  have s1 := k1.size
  clear k1
  obtain ⟨ao1, cap1, hfm⟩ := ow.form
  subst hfm
  dsimp only
  repeat (first | go_values | go_skip | go_guarded | go_step | go_upon)
  go_at_call 26
  refine (HI.out _).mono ?_
  rintro e u2 ⟨v2, rfl, og, k2⟩
  have K2 := K1.trans k2
  have ow := ow.kept k2
  have s2 := k2.size
  clear k2 K1
  obtain ⟨ao2, cap2, hfm⟩ := og.form
  subst hfm
  dsimp only
  repeat (first | go_values | go_skip | go_guarded | go_step | go_upon)
  go_at_call 16
  refine (eqNumS R _ _ _ og.at ow.at (by omega)).mono ?_
  rintro e u3 ⟨rfl, k3⟩
  have K3 := K2.trans k3
  have ow := ow.kept k3
  have og := og.kept k3
  have s3 := k3.size
  clear k3 K2
  dsimp only
  repeat (first | go_values | go_skip | go_guarded | go_step | go_upon)
  go_at_call 17
  refine (markNumS R _ 1 u1.heap.size u2.heap.size _ og (by omega)).mono ?_
  rintro e u4 ⟨rfl, og2, b4⟩
  rw [HD.out]
  have k4 := b4.inner og
  have K4 := K3.onto k4 (by omega)
  have ow := ow.but k4 (by omega)
  have s4 := k4.size
  clear b4 k4 K3 og
  dsimp only
  repeat (first | go_values | go_skip | go_guarded | go_step | go_upon)
  go_at_call 18
  refine (heldNumS R.length _ 1 _ og2.at (by omega)).mono ?_
  rintro e u5 ⟨rfl, k5⟩
  rw [HD.out]
  have K5 := K4.trans k5
  have ow := ow.kept k5
  have og2 := og2.kept k5
  have s5 := k5.size
  clear k5 K4
  dsimp only
  repeat (first | go_values | go_skip | go_guarded | go_step | go_upon)
  go_at_call 26
  refine (HI.out _).mono ?_
  rintro e u6 ⟨v6, rfl, oh, k6⟩
  have K6 := K5.trans k6
  have ow := ow.kept k6
  have og2 := og2.kept k6
  have s6 := k6.size
  clear k6 K5
  obtain ⟨ao6, cap6, hfm⟩ := oh.form
  subst hfm
  dsimp only
  repeat (first | go_values | go_skip | go_guarded | go_step | go_upon)
  go_at_call 16
  refine (eqNumS R _ _ _ oh.at ow.at (by omega)).mono ?_
  rintro e u7 ⟨rfl, k7⟩
  have K7 := K6.trans k7
  have ow := ow.kept k7
  have og2 := og2.kept k7
  have oh := oh.kept k7
  have s7 := k7.size
  clear k7 K6
  clear oh ow
  dsimp only
  repeat (first | go_values | go_skip | go_guarded | go_step | go_upon)
  go_at_call 18
  refine (heldNumS R.length _ 1 _ og2.at (by omega)).mono ?_
  rintro e u8 ⟨rfl, k8⟩
  rw [HD.out]
  have K8 := K7.trans k8
  have og2 := og2.kept k8
  have s8 := k8.size
  clear k8 K7
  dsimp only
  repeat (first | go_values | go_skip | go_guarded | go_step | go_upon)
  go_ret
  exact ⟨rfl, K8⟩
set_option maxRecDepth 100000 in
set_option maxHeartbeats 8000000 in
theorem big (s : ByteArray) (w : World) (hlen : s.size ≤ maxLen) (hl : 1048576 < s.size) :
    Calls Try.prog 6 #[.string s] w fun e w' => e = .returned (.bool true) ∧ Kept w w' := by
  unfold maxLen at hlen
  have hdl : decide ((1048576 : Int) < (s.size : Int)) = true := by simp; omega
  go_enter Try.func6, Try.ntmps6
  repeat (first | go_values | go_skip | go_guarded | go_step | go_upon)
  go_ret
  exact ⟨rfl, But.refl _ _ _⟩
theorem all (s : ByteArray) (hlen : s.size ≤ maxLen) (w : World) (w' : World) (_ : w' = w) :
    Calls Try.prog 6 #[.string s] w fun e w' => e = .returned (.bool true) ∧ Kept w w' := by
  by_cases hl : s.size ≤ 1048576
  · exact walk s _ _ w hl (by have := runA_len s; omega) (fun u => sruns s u hl) (fun u => iruns s u hl)
  · exact big s w hlen (by omega)


set_option maxRecDepth 100000 in
theorem lifted (os : Os) (started : os.Started) (H : Type) (enc : TypeId × Value → H) :
    ReturnsInHanded {} Try.checked os 6 .any (Rows.fnExactRunesOfSpec.pre6 enc Try.prog Try.f6 Rows.fnExactRunesOfRow.domain false) (Rows.fnExactRunesOfSpec.post enc Try.prog Try.f6 false true false false) := by
  refine returnsInHanded_of_change (C := Try.checked) own started (by kernel_rfl) Try.func6
    (ChangeSpec.witness6 (enc := enc) (C := Try.checked) false ⟨#[], #[.string ByteArray.empty], []⟩ 8 (by kernel_rfl) (by kernel_rfl) (by kernel_rfl) (by kernel_rfl)) ?_
  intro W base args ds gs before hval0 hW hcnd _
  have hval : ∀ (j : Nat) t v, Try.f6.params[j]? = some t → args[j]? = some v → Value.okWide Try.prog W .any base t v := hval0
  have hW' := hW
  obtain ⟨p, q, hA0, hV, rfl, hfz, hnd⟩ := hW
  have hA : DataW.TrodAll enc Try.prog W 0 (fun _ => true) true Try.f6.params.toList args.toList ds p := hA0
  rw [Try.params6] at hA hval
  obtain ⟨v0, vs0, d0, ds0, p0, q0, hargs, rfl, rfl, h0, r0⟩ := trodAll_cons hA
  obtain ⟨rfl, rfl, rfl⟩ := trodAll_nil r0
  obtain rfl : args = #[v0] := by cases args; simp_all
  obtain ⟨rfl, rfl⟩ := trodVars_none hV
  obtain ⟨a0, rfl, rfl, rfl, w0⟩ := Go.ChangeMaps.open_string Try.underlying9 (hval 0 9 v0 rfl rfl) h0
  clear hA0 hval0
  simp only [List.append_nil] at hW'
  refine (all a0 w0 W W rfl).mono fun e W' ⟨he, hg⟩ => ?_
  subst he
  exact ⟨_, rfl, post_of_kept (pa := _) (pv := []) hW' (fun _ _ _ => (trodAll_cons_mk (shut_bool Try.underlying4 _) trodAll_mk0)) (fun sp hsp => (trodAll_cons_mk (Go.ChangeMaps.shut_string Try.underlying9 w0) trodAll_mk0)) (fun _ _ => rfl) hg⟩

theorem over : Rows.fnExactRunesOfRow.holds Try.pinned (OpenSpec.ofChange Rows.fnExactRunesOfSpec) :=
  OpenClaim.holds_of_wide 6 Try.f6 rfl rfl rfl rfl rfl rfl rfl ⟨rfl, rfl, rfl, rfl, rfl⟩ rfl rfl rfl rfl rfl (by kernel_rfl) Try.func6 (by kernel_rfl)
    (of_decide_eq_true (by kernel_rfl)) (by unfold Func.isWrapper; first | (rw [if_pos (by decide +kernel)]; kernel_rfl) | (rw [if_neg (by decide +kernel)]; exact ⟨rfl, rfl⟩))
    (fun os started H enc _ => lifted os started H enc)

theorem proved : Rows.FnExactRunesOfSaid :=
  over
#print axioms proved
end Go.Proofs.Ytaofilinejanjaa.fnExactRunesOf
