/-
  At every list of values and every list of keys the program's WorstOf answers what the specification's WorstOf answers, and writes into no argument.
-/
import Derived.Test.YtpnplfngglfpoaaRows
import Derived.Test.YtpnplfngglfpoaaWorst11
import Derived.Test.YtpnplfngglfpoaaNumM
import Derived.Test.YtpnplfngglfpoaaTo
import Derived.Test.YtpnplfngglfpoaaEq
import Derived.Test.YtpnplfngglfpoaaMarks
import Derived.Test.YtpnplfngglfpoaaOpen
import Derived.ChangeMaps
namespace Go.Proofs.Ytpnplfngglfpoaa.fnExactWorstOf
open Go.ChangeShapes Go.WideShapes Go.ChangeAt Go.RowKit
set_option linter.unusedVariables false

theorem own : ownKnob Try.prog.godebug = none := by kernel_rfl

set_option maxRecDepth 100000 in
set_option maxHeartbeats 8000000 in
theorem walk (l : List NumD) (l2 : List KeyD) (z : Int) (J : Bool) (v v2 : Value) (w : World) (hv : NumAt w v l) (hv2 : KeyAt w v2 l2) (hn : l.length ≤ 1048576) (hn2 : l2.length ≤ 1048576)
    (hS : ∀ (u : World) (v v2 : Value), NumAt u v l → KeyAt u v2 l2 → Calls Try.prog 15 #[v, v2] u fun e u' => e = .returned (.tuple #[.int .i64 z, .bool J]) ∧ Kept u u')
    (hI : ∀ (u : World) (v v2 : Value), NumAt u v l → KeyAt u v2 l2 → Calls Try.prog 14 #[v, v2] u fun e u' => e = .returned (.tuple #[.int .i64 z, .bool J]) ∧ Kept u u') :
    Calls Try.prog 7 #[v, v2] w fun e w' => e = .returned (.bool true) ∧ Kept w w' := by
  have hdn : decide ((1048576 : Int) < (l.length : Int)) = false := by simp; omega
  have hdl : decide ((1048576 : Int) - (l2.length : Int) < 0) = false := by simp; omega
  obtain ⟨ao, cap, hfm⟩ := row_nil hv
  subst hfm
  obtain ⟨ap, caq, hfm⟩ := row_nil hv2
  subst hfm
  have HS : Hid _ := hS
  have HI : Hid _ := hI
  clear hS hI
  go_enter Try.func7, Try.ntmps7
  repeat (first | go_values | go_skip | go_guarded | go_step | go_upon)
  go_at_call 21
  refine (szKeyS l2 _ _ _ hv2 (by omega) (by omega) (by omega)).mono ?_
  rintro e u1 ⟨rfl, k1⟩
  rw [leftOf_yes (by omega)]
  dsimp only
  repeat (first | go_values | go_skip | go_guarded | go_step | go_upon)
  go_at_call 26
  refine (toNumS l _ _ (hv.kept k1) hn).mono ?_
  rintro e u2 ⟨w2, rfl, o2, k2⟩
  have K2 := k1.trans k2
  obtain ⟨ao2, cap2, hfm⟩ := o2.form
  subst hfm
  dsimp only
  repeat (first | go_values | go_skip | go_guarded | go_step | go_upon)
  go_at_call 23
  refine (toKeyS l2 _ _ (hv2.kept K2) hn2).mono ?_
  rintro e u3 ⟨w3, rfl, o3, k3⟩
  have K3 := K2.trans k3
  have o2 := o2.kept k3
  obtain ⟨ao3, cap3, hfm⟩ := o3.form
  subst hfm
  dsimp only
  repeat (first | go_values | go_skip | go_guarded | go_step | go_upon)
  go_at_call 15
  refine (HS.out _ _ _ o2.at o3.at).mono ?_
  rintro e u4 ⟨rfl, k4⟩
  have K4 := K3.trans k4
  clear o2 o3
  dsimp only
  repeat (first | go_values | go_skip | go_guarded | go_step | go_upon)
  go_at_call 26
  refine (toNumS l _ _ (hv.kept K4) hn).mono ?_
  rintro e u5 ⟨w5, rfl, o5, k5⟩
  have K5 := K4.trans k5
  obtain ⟨ao5, cap5, hfm⟩ := o5.form
  subst hfm
  dsimp only
  repeat (first | go_values | go_skip | go_guarded | go_step | go_upon)
  go_at_call 23
  refine (toKeyS l2 _ _ (hv2.kept K5) hn2).mono ?_
  rintro e u6 ⟨w6, rfl, o6, k6⟩
  have K6 := K5.trans k6
  have o5 := o5.kept k6
  obtain ⟨ao6, cap6, hfm⟩ := o6.form
  subst hfm
  dsimp only
  repeat (first | go_values | go_skip | go_guarded | go_step | go_upon)
  go_at_call 14
  refine (HI.out _ _ _ o5.at o6.at).mono ?_
  rintro e u7 ⟨rfl, k7⟩
  have K7 := K6.trans k7
  have o5 := o5.kept k7
  have o6 := o6.kept k7
  dsimp only
  repeat (first | go_values | go_skip | go_guarded | go_step | go_upon)
  go_at_call 26
  refine (toNumS l _ _ (hv.kept K7) hn).mono ?_
  rintro e u8 ⟨w8, rfl, o8, k8⟩
  have K8 := K7.trans k8
  have o5 := o5.kept k8
  have o6 := o6.kept k8
  obtain ⟨ao8, cap8, hfm⟩ := o8.form
  subst hfm
  dsimp only
  repeat (first | go_values | go_skip | go_guarded | go_step | go_upon)
  go_at_call 27
  refine (eqNumS l _ _ _ o5.at o8.at (by omega)).mono ?_
  rintro e u9 ⟨rfl, k9⟩
  have K9 := K8.trans k9
  have o6 := o6.kept k9
  dsimp only
  repeat (first | go_values | go_skip | go_guarded | go_step | go_upon)
  go_at_call 23
  refine (toKeyS l2 _ _ (hv2.kept K9) hn2).mono ?_
  rintro e u10 ⟨w10, rfl, o10, k10⟩
  have K10 := K9.trans k10
  have o6 := o6.kept k10
  obtain ⟨ao10, cap10, hfm⟩ := o10.form
  subst hfm
  dsimp only
  repeat (first | go_values | go_skip | go_guarded | go_step | go_upon)
  go_at_call 25
  refine (eqKeyS l2 _ _ _ o6.at o10.at (by omega)).mono ?_
  rintro e u11 ⟨rfl, k11⟩
  have K11 := K10.trans k11
  dsimp only
  repeat (first | go_values | go_skip | go_guarded | go_step | go_upon)
  go_ret
  exact ⟨rfl, K11⟩

set_option maxRecDepth 100000 in
theorem big1 (l : List NumD) (v v2 : Value) (w : World) (hv : NumAt w v l) (hl : 1048576 < l.length) :
    Calls Try.prog 7 #[v, v2] w fun e w' => e = .returned (.bool true) ∧ Kept w w' := by
  have hdn : decide ((1048576 : Int) < (l.length : Int)) = true := by simp; omega
  obtain ⟨ao, cap, hfm⟩ := row_nil hv
  subst hfm
  go_enter Try.func7, Try.ntmps7
  go_wp2
  go_ret
  exact ⟨rfl, But.refl _ _ _⟩
set_option maxRecDepth 100000 in
theorem big2 (l : List NumD) (l2 : List KeyD) (v v2 : Value) (w : World) (hv : NumAt w v l) (hv2 : KeyAt w v2 l2) (hl : l.length ≤ 1048576) (hn : l2.length ≤ 9223372036854775807) (hl2 : 1048576 < l2.length) :
    Calls Try.prog 7 #[v, v2] w fun e w' => e = .returned (.bool true) ∧ Kept w w' := by
  have hdn : decide ((1048576 : Int) < (l.length : Int)) = false := by simp; omega
  obtain ⟨ao, cap, hfm⟩ := row_nil hv
  subst hfm
  obtain ⟨ap, caq, hfm⟩ := row_nil hv2
  subst hfm
  go_enter Try.func7, Try.ntmps7
  repeat (first | go_values | go_skip | go_guarded | go_step | go_upon)
  go_at_call 21
  refine (szKeyS l2 _ _ _ hv2 (by omega) (by omega) hn).mono ?_
  rintro e u1 ⟨rfl, k1⟩
  rw [leftOf_no (by omega)]
  dsimp only
  repeat (first | go_values | go_skip | go_guarded | go_step | go_upon)
  go_ret
  exact ⟨rfl, k1⟩
theorem all (l : List NumD) (v : Value) {w : World} (hv : NumAt w v l) (_ : ∀ p ∈ l, True) (hm : l.length ≤ maxLen) (l2 : List KeyD) (v2 : Value) (hv2 : KeyAt w v2 l2) (_ : ∀ p ∈ l2, True) (hm2 : l2.length ≤ maxLen) (w' : World) (_ : w' = w) :
    Calls Try.prog 7 #[v, v2] w fun e w' => e = .returned (.bool true) ∧ Kept w w' := by
  have hm2' : l2.length ≤ 9223372036854775807 := by unfold maxLen at hm2; omega
  by_cases hl : l.length ≤ 1048576
  · by_cases hl2 : l2.length ≤ 1048576
    · exact walk l l2 (worstA l l2).1 (worstA l l2).2 v v2 w hv hv2 hl hl2 (fun u v v2 h h2 => sworst l l2 v v2 u h h2 (by omega) (by omega)) (fun u v v2 h h2 => iworst l l2 v v2 u h h2 (by omega) (by omega))
    · exact big2 l l2 v v2 w hv hv2 hl hm2' (by omega)
  · exact big1 l v v2 w hv (by omega)


set_option maxRecDepth 100000 in
theorem lifted (os : Os) (started : os.Started) (H : Type) (enc : TypeId × Value → H) :
    ReturnsInHanded {} Try.checked os 7 .any (Rows.fnExactWorstOfSpec.pre6 enc Try.prog Try.f7 Rows.fnExactWorstOfRow.domain false) (Rows.fnExactWorstOfSpec.post enc Try.prog Try.f7 false true false false) := by
  refine returnsInHanded_of_change (C := Try.checked) own started (by kernel_rfl) Try.func7
    (ChangeSpec.witness6 (enc := enc) (C := Try.checked) false ⟨#[], #[.slice none 0 0, .slice none 0 0], []⟩ 8 (by kernel_rfl) (by kernel_rfl) (by kernel_rfl) (by kernel_rfl)) ?_
  intro W base args ds gs before hval0 hW hcnd _
  have hval : ∀ (j : Nat) t v, Try.f7.params[j]? = some t → args[j]? = some v → Value.okWide Try.prog W .any base t v := hval0
  have hW' := hW
  obtain ⟨p, q, hA0, hV, rfl, hfz, hnd⟩ := hW
  have hA : DataW.TrodAll enc Try.prog W 0 (fun _ => true) true Try.f7.params.toList args.toList ds p := hA0
  rw [Try.params7] at hA hval
  obtain ⟨v0, vs0, d0, ds0, p0, q0, hargs, rfl, rfl, h0, r0⟩ := trodAll_cons hA
  obtain ⟨v1, vs1, d1, ds1, p1, q1, rfl, rfl, rfl, h1, r1⟩ := trodAll_cons r0
  obtain ⟨rfl, rfl, rfl⟩ := trodAll_nil r1
  obtain rfl : args = #[v0, v1] := by cases args; simp_all
  obtain ⟨rfl, rfl⟩ := trodVars_none hV
  obtain ⟨l0, hv0, hq0, hl0⟩ := open_numS (hval 0 23 v0 rfl rfl) h0
  obtain ⟨l1, hv1, hq1, hl1⟩ := open_keyS (hval 1 48 v1 rfl rfl) h1
  clear hA0 hval0
  simp only [List.append_nil] at hW'
  refine (all l0 v0 hv0 hq0 hl0 l1 v1 hv1 hq1 hl1 W rfl).mono fun e W' ⟨he, hg⟩ => ?_
  subst he
  exact ⟨_, rfl, post_of_kept (pa := _) (pv := []) hW' (fun _ _ _ => (trodAll_cons_mk (shut_bool Try.underlying4 _) trodAll_mk0)) (fun sp hsp => (trodAll_cons_mk (kept_trod (by kernel_rfl) (of_decide_eq_true (by kernel_rfl)) h0 hg (fun x hx => hW'.lt x (by simp [hx])) (fun x hx => hsp x (by simp [hx]))) (trodAll_cons_mk (kept_trod (by kernel_rfl) (of_decide_eq_true (by kernel_rfl)) h1 hg (fun x hx => hW'.lt x (by simp [hx])) (fun x hx => hsp x (by simp [hx]))) trodAll_mk0))) (fun _ _ => rfl) hg⟩

theorem over : Rows.fnExactWorstOfRow.holds Try.pinned (OpenSpec.ofChange Rows.fnExactWorstOfSpec) :=
  OpenClaim.holds_of_wide 7 Try.f7 rfl rfl rfl rfl rfl rfl rfl ⟨rfl, rfl, rfl, rfl, rfl⟩ rfl rfl rfl rfl rfl (by kernel_rfl) Try.func7 (by kernel_rfl)
    (of_decide_eq_true (by kernel_rfl)) (by unfold Func.isWrapper; first | (rw [if_pos (by decide +kernel)]; kernel_rfl) | (rw [if_neg (by decide +kernel)]; exact ⟨rfl, rfl⟩))
    (fun os started H enc _ => lifted os started H enc)

theorem proved : Rows.FnExactWorstOfSaid :=
  over
#print axioms proved
end Go.Proofs.Ytpnplfngglfpoaa.fnExactWorstOf
