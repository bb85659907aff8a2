/-
  At every facts, every plan and every list of actions the program's PlanCost answers what the specification's PlanCost answers, and writes into no argument.
-/
import Derived.Test.YtjpceimaggcncaaRows
import Derived.Test.YtjpceimaggcncaaIPlan
import Derived.Test.YtjpceimaggcncaaTo
import Derived.Test.YtjpceimaggcncaaEq
import Derived.Test.YtjpceimaggcncaaSize
import Derived.Test.YtjpceimaggcncaaOpen
import Derived.ChangeMaps
namespace Go.Proofs.Ytjpceimaggcncaa.fnExactPlanCost
open Go.ChangeShapes Go.WideShapes Go.ChangeAt Go.RowKit
set_option linter.unusedVariables false

theorem own : ownKnob Try.prog.godebug = none := by kernel_rfl

set_option maxRecDepth 100000 in
set_option maxHeartbeats 4000000 in
theorem walk (f : Int) (ns : List NumD) (ps : List ActionD) (v v' : Value) (w : World) (hv : NumAt w v ns) (hv' : ActionAt w v' ps) (hn : ns.length ≤ 1048576) (hm : ps.length ≤ 9223372036854775807) (hq : ∀ p ∈ ps, p.1.size ≤ 9223372036854775807) (hl : actionCost ps ≤ 1048576) :
    Calls Try.prog 8 #[.int .i64 f, v, v'] w fun e w' => e = .returned (.bool true) ∧ Kept w w' := by
  have hlen : ps.length ≤ 1048576 := by unfold actionCost at hl; omega
  have hq1 : ∀ p ∈ ps, p.1.size ≤ 1048576 := fun p hp => by
    obtain ⟨i, hi⟩ := List.mem_iff_getElem?.1 hp
    have := actionSum_le hi
    unfold actionCost at hl
    omega
  have hdl : decide ((1048576 : Int) - (actionCost ps : Int) < 0) = false := by simp; omega
  have hdn : decide ((1048576 : Int) < (ns.length : Int)) = false := by simp; omega
  obtain ⟨ao, cap, hfm⟩ := row_nil hv
  subst hfm
  obtain ⟨ao', cap', hfm⟩ := row_nil hv'
  subst hfm
  obtain ⟨J, hJ⟩ : ∃ j, planA f ns ps = j := ⟨_, rfl⟩
  have HS : Hid (∀ (u : World) (x y : Value), NumAt u x ns → ActionAt u y ps → Calls Try.prog 17 #[.int .i64 f, x, y] u fun e u' => e = .returned (.tuple #[.int .i64 J.1, .int .i64 J.2.1, .bool J.2.2]) ∧ Kept u u') := fun u x y h1 h2 => hJ ▸ sPlan f ns ps x y u h1 h2 hq1 hlen hn
  have HI : Hid (∀ (u : World) (x y : Value), NumAt u x ns → ActionAt u y ps → Calls Try.prog 16 #[.int .i64 f, x, y] u fun e u' => e = .returned (.tuple #[.int .i64 J.1, .int .i64 J.2.1, .bool J.2.2]) ∧ Kept u u') := fun u x y h1 h2 => hJ ▸ iPlan f ns ps x y u h1 h2 hq1 hlen hn
  clear hJ
  obtain ⟨J0, J1, J2⟩ := J
  go_enter Try.func8, Try.ntmps8
  repeat (first | go_values | go_skip | go_guarded | go_step | go_upon)
  go_at_call 25
  refine (szActionS ps _ _ _ hv' (by omega) (by omega) hm hq).mono ?_
  rintro e u1 ⟨rfl, k1⟩
  rw [leftOf_yes (by omega)]
  dsimp only
  repeat (first | go_values | go_skip | go_guarded | go_step | go_upon)
  go_at_call 32
  refine (toNumS ns _ _ (hv.kept k1) hn).mono ?_
  rintro e u2 ⟨v2, rfl, o2, k2⟩
  have K2 := k1.trans k2
  obtain ⟨ao2, cap2, hfm⟩ := o2.form
  subst hfm
  dsimp only
  repeat (first | go_values | go_skip | go_guarded | go_step | go_upon)
  go_at_call 26
  refine (toActionS ps _ _ (hv'.kept K2) hlen).mono ?_
  rintro e u3 ⟨v3, rfl, o3, k3⟩
  have K3 := K2.trans k3
  obtain ⟨ao3, cap3, hfm⟩ := o3.form
  subst hfm
  dsimp only
  repeat (first | go_values | go_skip | go_guarded | go_step | go_upon)
  go_at_call 17
  refine (HS.out _ _ _ (o2.kept k3).at o3.at).mono ?_
  rintro e u4 ⟨rfl, k4⟩
  have K4 := K3.trans k4
  clear o2 o3 k1 k2 k3 k4 K2 K3
  dsimp only
  repeat (first | go_values | go_skip | go_guarded | go_step | go_upon)
  go_at_call 32
  refine (toNumS ns _ _ (hv.kept K4) hn).mono ?_
  rintro e u5 ⟨v5, rfl, o5, k5⟩
  have K5 := K4.trans k5
  obtain ⟨ao5, cap5, hfm⟩ := o5.form
  subst hfm
  dsimp only
  repeat (first | go_values | go_skip | go_guarded | go_step | go_upon)
  go_at_call 26
  refine (toActionS ps _ _ (hv'.kept K5) hlen).mono ?_
  rintro e u6 ⟨v6, rfl, o6, k6⟩
  have K6 := K5.trans k6
  have o5 := o5.kept k6
  obtain ⟨ao6, cap6, hfm⟩ := o6.form
  subst hfm
  dsimp only
  repeat (first | go_values | go_skip | go_guarded | go_step | go_upon)
  go_at_call 16
  refine (HI.out _ _ _ o5.at o6.at).mono ?_
  rintro e u7 ⟨rfl, k7⟩
  have K7 := K6.trans k7
  have o5 := o5.kept k7
  have o6 := o6.kept k7
  clear k5 k6 k7 K4 K5 K6
  dsimp only
  repeat (first | go_values | go_skip | go_guarded | go_step | go_upon)
  go_at_call 32
  refine (toNumS ns _ _ (hv.kept K7) hn).mono ?_
  rintro e u8 ⟨v8, rfl, o8, k8⟩
  have K8 := K7.trans k8
  have o5 := o5.kept k8
  have o6 := o6.kept k8
  obtain ⟨ao8, cap8, hfm⟩ := o8.form
  subst hfm
  dsimp only
  repeat (first | go_values | go_skip | go_guarded | go_step | go_upon)
  go_at_call 27
  refine (eqNumS ns _ _ _ o5.at o8.at (by omega)).mono ?_
  rintro e u9 ⟨rfl, k9⟩
  have K9 := K8.trans k9
  have o6 := o6.kept k9
  clear o5 o8
  dsimp only
  repeat (first | go_values | go_skip | go_guarded | go_step | go_upon)
  go_at_call 26
  refine (toActionS ps _ _ (hv'.kept K9) hlen).mono ?_
  rintro e u10 ⟨v10, rfl, o10, k10⟩
  have K10 := K9.trans k10
  have o6 := o6.kept k10
  obtain ⟨ao10, cap10, hfm⟩ := o10.form
  subst hfm
  dsimp only
  repeat (first | go_values | go_skip | go_guarded | go_step | go_upon)
  go_at_call 28
  refine (eqActionS ps _ _ _ o6.at o10.at (by omega)).mono ?_
  rintro e u11 ⟨rfl, k11⟩
  have K11 := K10.trans k11
  dsimp only
  repeat (first | go_values | go_skip | go_guarded | go_step | go_upon)
  go_ret
  exact ⟨rfl, K11⟩

set_option maxRecDepth 100000 in
set_option maxHeartbeats 1000000 in
theorem big (f : Int) (ns : List NumD) (ps : List ActionD) (v v' : Value) (w : World) (hv : NumAt w v ns) (hv' : ActionAt w v' ps) (hn : ns.length ≤ 1048576) (hm : ps.length ≤ 9223372036854775807) (hq : ∀ p ∈ ps, p.1.size ≤ 9223372036854775807) (hl : 1048576 < actionCost ps) :
    Calls Try.prog 8 #[.int .i64 f, v, v'] w fun e w' => e = .returned (.bool true) ∧ Kept w w' := by
  have hdn : decide ((1048576 : Int) < (ns.length : Int)) = false := by simp; omega
  obtain ⟨ao, cap, hfm⟩ := row_nil hv
  subst hfm
  obtain ⟨ao', cap', hfm⟩ := row_nil hv'
  subst hfm
  go_enter Try.func8, Try.ntmps8
  repeat (first | go_values | go_skip | go_guarded | go_step | go_upon)
  go_at_call 25
  refine (szActionS ps _ _ _ hv' (by omega) (by omega) hm hq).mono ?_
  rintro e u1 ⟨rfl, k1⟩
  rw [leftOf_no (by omega)]
  dsimp only
  repeat (first | go_values | go_skip | go_guarded | go_step | go_upon)
  go_ret
  exact ⟨rfl, k1⟩

set_option maxRecDepth 100000 in
theorem long (f : Int) (ns : List NumD) (v v' : Value) (w : World) (hv : NumAt w v ns) (hn : 1048576 < ns.length) (hn' : ns.length ≤ 9223372036854775807) :
    Calls Try.prog 8 #[.int .i64 f, v, v'] w fun e w' => e = .returned (.bool true) ∧ Kept w w' := by
  have hdn : decide ((1048576 : Int) < (ns.length : Int)) = true := by simp; omega
  obtain ⟨ao, cap, hfm⟩ := row_nil hv
  subst hfm
  go_enter Try.func8, Try.ntmps8
  repeat (first | go_values | go_skip | go_guarded | go_step | go_upon)
  go_ret
  exact ⟨rfl, But.refl _ _ _⟩

theorem all (f : Int) (ns : List NumD) (v : Value) {w : World} (hv : NumAt w v ns) (_ : ∀ p ∈ ns, True) (hn : ns.length ≤ maxLen) (ps : List ActionD) (v' : Value) (hv' : ActionAt w v' ps) (hq : ∀ p ∈ ps, p.1.size ≤ maxLen) (hm : ps.length ≤ maxLen) (_ : World) :
    Calls Try.prog 8 #[.int .i64 f, v, v'] w fun e w' => e = .returned (.bool true) ∧ Kept w w' := by
  unfold maxLen at hn hm hq
  rcases Nat.lt_or_ge 1048576 ns.length with h | h
  · exact long f ns v v' w hv h (by omega)
  rcases Nat.lt_or_ge 1048576 (actionCost ps) with h2 | h2
  · exact big f ns ps v v' w hv hv' h (by omega) (fun p hp => by have := hq p hp; omega) h2
  · exact walk f ns ps v v' w hv hv' h (by omega) (fun p hp => by have := hq p hp; omega) h2


set_option maxRecDepth 100000 in
theorem lifted (os : Os) (started : os.Started) (H : Type) (enc : TypeId × Value → H) :
    ReturnsInHanded {} Try.checked os 8 .any (Rows.fnExactPlanCostSpec.pre6 enc Try.prog Try.f8 Rows.fnExactPlanCostRow.domain false) (Rows.fnExactPlanCostSpec.post enc Try.prog Try.f8 false true false false) := by
  refine returnsInHanded_of_change (C := Try.checked) own started (by kernel_rfl) Try.func8
    (ChangeSpec.witness6 (enc := enc) (C := Try.checked) false ⟨#[], #[.int .i64 0, .slice none 0 0, .slice none 0 0], []⟩ 8 (by kernel_rfl) (by kernel_rfl) (by kernel_rfl) (by kernel_rfl)) ?_
  intro W base args ds gs before hval0 hW hcnd _
  have hval : ∀ (j : Nat) t v, Try.f8.params[j]? = some t → args[j]? = some v → Value.okWide Try.prog W .any base t v := hval0
  have hW' := hW
  obtain ⟨p, q, hA0, hV, rfl, hfz, hnd⟩ := hW
  have hA : DataW.TrodAll enc Try.prog W 0 (fun _ => true) true Try.f8.params.toList args.toList ds p := hA0
  rw [Try.params8] at hA hval
  obtain ⟨v0, vs0, d0, ds0, p0, q0, hargs, rfl, rfl, h0, r0⟩ := trodAll_cons hA
  obtain ⟨v1, vs1, d1, ds1, p1, q1, rfl, rfl, rfl, h1, r1⟩ := trodAll_cons r0
  obtain ⟨v2, vs2, d2, ds2, p2, q2, rfl, rfl, rfl, h2, r2⟩ := trodAll_cons r1
  obtain ⟨rfl, rfl, rfl⟩ := trodAll_nil r2
  obtain rfl : args = #[v0, v1, v2] := by cases args; simp_all
  obtain ⟨rfl, rfl⟩ := trodVars_none hV
  obtain ⟨a0, rfl, rfl, rfl, w0⟩ := open_int Try.underlying3 (hval 0 3 v0 rfl rfl) h0
  obtain ⟨l1, hv1, hq1, hl1⟩ := open_numS (hval 1 26 v1 rfl rfl) h1
  obtain ⟨l2, hv2, hq2, hl2⟩ := open_actionS (hval 2 43 v2 rfl rfl) h2
  clear hA0 hval0
  simp only [List.append_nil] at hW'
  refine (all a0 l1 v1 hv1 hq1 hl1 l2 v2 hv2 hq2 hl2 W).mono fun e W' ⟨he, hg⟩ => ?_
  subst he
  exact ⟨_, rfl, post_of_kept (pa := _) (pv := []) hW' (fun _ _ _ => (trodAll_cons_mk (shut_bool Try.underlying4 _) trodAll_mk0)) (fun sp hsp => (trodAll_cons_mk (shut_int Try.underlying3 w0) (trodAll_cons_mk (kept_trod (by kernel_rfl) (of_decide_eq_true (by kernel_rfl)) h1 hg (fun x hx => hW'.lt x (by simp [hx])) (fun x hx => hsp x (by simp [hx]))) (trodAll_cons_mk (kept_trod (by kernel_rfl) (of_decide_eq_true (by kernel_rfl)) h2 hg (fun x hx => hW'.lt x (by simp [hx])) (fun x hx => hsp x (by simp [hx]))) trodAll_mk0)))) (fun _ _ => rfl) hg⟩

theorem over : Rows.fnExactPlanCostRow.holds Try.pinned (OpenSpec.ofChange Rows.fnExactPlanCostSpec) :=
  OpenClaim.holds_of_wide 8 Try.f8 rfl rfl rfl rfl rfl rfl rfl ⟨rfl, rfl, rfl, rfl, rfl⟩ rfl rfl rfl rfl rfl (by kernel_rfl) Try.func8 (by kernel_rfl)
    (of_decide_eq_true (by kernel_rfl)) (by unfold Func.isWrapper; first | (rw [if_pos (by decide +kernel)]; kernel_rfl) | (rw [if_neg (by decide +kernel)]; exact ⟨rfl, rfl⟩))
    (fun os started H enc _ => lifted os started H enc)

theorem proved : Rows.FnExactPlanCostSaid :=
  over
#print axioms proved
end Go.Proofs.Ytjpceimaggcncaa.fnExactPlanCost
