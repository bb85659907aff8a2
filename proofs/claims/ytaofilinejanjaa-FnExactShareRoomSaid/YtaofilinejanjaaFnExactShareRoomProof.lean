/-
  At every room and every two lists the program's ShareRoom answers what the specification's ShareRoom answers, writes into no argument and keeps nothing of one; its answer owns its memory.
-/
import Derived.Test.YtaofilinejanjaaRows
import Derived.Test.YtaofilinejanjaaNumM
import Derived.Test.YtaofilinejanjaaRoomS18
import Derived.Test.YtaofilinejanjaaRoomI18
import Derived.ChangeMaps
namespace Go.Proofs.Ytaofilinejanjaa.fnExactShareRoom
open Go.ChangeShapes Go.WideShapes Go.ChangeAt Go.RowKit
set_option linter.unusedVariables false

theorem own : ownKnob Try.prog.godebug = none := by kernel_rfl

set_option maxRecDepth 100000 in
set_option maxHeartbeats 8000000 in
theorem walk (room : Int) (least grow R : List NumD) (jb : Bool) (vl vg : Value) (w : World) (hv1 : NumAt w vl least) (hv2 : NumAt w vg grow) (hl1 : least.length ≤ 1048576) (hl2 : grow.length ≤ 1048576) (hR : R.length ≤ 1000)
    (hS : ∀ (u : World) (vl vg : Value), NumAt u vl least → NumAt u vg grow → Calls Try.prog 13 #[.int .i64 room, vl, vg] u fun e u' => ∃ v', e = .returned (.tuple #[v', .bool jb]) ∧ NumO u' u.heap.size u'.heap.size v' R ∧ Kept u u')
    (hI : ∀ (u : World) (vl vg : Value), NumAt u vl least → NumAt u vg grow → Calls Try.prog 15 #[.int .i64 room, vl, vg] u fun e u' => ∃ v', e = .returned (.tuple #[v', .bool jb]) ∧ NumO u' u.heap.size u'.heap.size v' R ∧ Kept u u') :
    Calls Try.prog 4 #[.int .i64 room, vl, vg] w fun e w' => e = .returned (.bool true) ∧ Kept w w' := by
  have hda : decide ((1048576 : Int) < (least.length : Int)) = false := by simp; omega
  have hdb : decide ((1048576 : Int) < (grow.length : Int)) = false := by simp; omega
  obtain ⟨qa, hHA⟩ : ∃ q : Nat, 1 + least.length = q := ⟨_, rfl⟩
  have HA : Hid (1 + least.length = qa) := hHA
  have bHA : qa ≤ 200000000 := by omega
  clear hHA
  obtain ⟨qb, hHB⟩ : ∃ q : Nat, qa + grow.length = q := ⟨_, rfl⟩
  have HB : Hid (qa + grow.length = qb) := hHB
  have bHB : qb ≤ 400000000 := by omega
  have dHB : decide ((qb : Int) < 0) = false := by simp
  clear hHB
  obtain ⟨qd, hHD⟩ : ∃ q : Nat, 1 + R.length = q := ⟨_, rfl⟩
  have HD : Hid (1 + R.length = qd) := hHD
  have bHD : qd ≤ 200000000 := by omega
  have dHD : decide ((qd : Int) < 0) = false := by simp
  clear hHD
  have HS : Hid (∀ (u : World) (vl vg : Value), NumAt u vl least → NumAt u vg grow → Calls Try.prog 13 #[.int .i64 room, vl, vg] u fun e u' => ∃ v', e = .returned (.tuple #[v', .bool jb]) ∧ NumO u' u.heap.size u'.heap.size v' R ∧ Kept u u') := hS
  have HI : Hid (∀ (u : World) (vl vg : Value), NumAt u vl least → NumAt u vg grow → Calls Try.prog 15 #[.int .i64 room, vl, vg] u fun e u' => ∃ v', e = .returned (.tuple #[v', .bool jb]) ∧ NumO u' u.heap.size u'.heap.size v' R ∧ Kept u u') := hI
  clear hS hI
  obtain ⟨ao, cap, hfm⟩ := row_nil hv1
  subst hfm
  obtain ⟨aog, capg, hfm⟩ := row_nil hv2
  subst hfm
  go_enter Try.func4, Try.ntmps4
  repeat (first | go_values | go_skip | go_guarded | go_step | go_upon)
  go_at_call 14
  refine (toNumS least _ _ hv1 (by omega)).mono ?_
  rintro e u1 ⟨v1, rfl, t1, k1⟩
  have K1 := k1
  have s1 := k1.size
  clear k1
  obtain ⟨ao1, cap1, hfm⟩ := t1.form
  subst hfm
  dsimp only
  repeat (first | go_values | go_skip | go_guarded | go_step | go_upon)
  go_at_call 14
  refine (toNumS grow _ _ (hv2.kept K1) (by omega)).mono ?_
  rintro e u2 ⟨v2, rfl, t2, k2⟩
  have K2 := K1.trans k2
  have t1 := t1.kept k2
  have s2 := k2.size
  clear k2 K1
  obtain ⟨ao2, cap2, hfm⟩ := t2.form
  subst hfm
  dsimp only
  repeat (first | go_values | go_skip | go_guarded | go_step | go_upon)
  go_at_call 13
  refine (HS.out _ _ _ t1.at t2.at).mono ?_
  rintro e u3 ⟨v3, rfl, ow, k3⟩
  have K3 := K2.trans k3
  have t1 := t1.kept k3
  have t2 := t2.kept k3
  have s3 := k3.size
  clear k3 K2
  obtain ⟨ao3, cap3, hfm⟩ := ow.form
  subst hfm
  clear t1 t2
  dsimp only
  repeat (first | go_values | go_skip | go_guarded | go_step | go_upon)
  go_at_call 14
  refine (toNumS least _ _ (hv1.kept K3) (by omega)).mono ?_
  rintro e u4 ⟨v4, rfl, x1, k4⟩
  have K4 := K3.trans k4
  have ow := ow.kept k4
  have s4 := k4.size
  clear k4 K3
  obtain ⟨ao4, cap4, hfm⟩ := x1.form
  subst hfm
  dsimp only
  repeat (first | go_values | go_skip | go_guarded | go_step | go_upon)
  go_at_call 14
  refine (toNumS grow _ _ (hv2.kept K4) (by omega)).mono ?_
  rintro e u5 ⟨v5, rfl, x2, k5⟩
  have K5 := K4.trans k5
  have ow := ow.kept k5
  have x1 := x1.kept k5
  have s5 := k5.size
  clear k5 K4
  obtain ⟨ao5, cap5, hfm⟩ := x2.form
  subst hfm
  dsimp only
  repeat (first | go_values | go_skip | go_guarded | go_step | go_upon)
  go_at_call 15
  refine (HI.out _ _ _ x1.at x2.at).mono ?_
  rintro e u6 ⟨v6, rfl, og, k6⟩
  have K6 := K5.trans k6
  have ow := ow.kept k6
  have x1 := x1.kept k6
  have x2 := x2.kept k6
  have s6 := k6.size
  clear k6 K5
  obtain ⟨ao6, cap6, hfm⟩ := og.form
  subst hfm
  dsimp only
  repeat (first | go_values | go_skip | go_guarded | go_step | go_upon)
  go_at_call 16
  refine (eqNumS R _ _ _ og.at ow.at (by omega)).mono ?_
  rintro e u7 ⟨rfl, k7⟩
  have K7 := K6.trans k7
  have ow := ow.kept k7
  have x1 := x1.kept k7
  have x2 := x2.kept k7
  have og := og.kept k7
  have s7 := k7.size
  clear k7 K6
  dsimp only
  repeat (first | go_values | go_skip | go_guarded | go_step | go_upon)
  go_at_call 14
  refine (toNumS least _ _ (hv1.kept K7) (by omega)).mono ?_
  rintro e u8 ⟨v8, rfl, y1, k8⟩
  have K8 := K7.trans k8
  have ow := ow.kept k8
  have x1 := x1.kept k8
  have x2 := x2.kept k8
  have og := og.kept k8
  have s8 := k8.size
  clear k8 K7
  obtain ⟨ao8, cap8, hfm⟩ := y1.form
  subst hfm
  dsimp only
  repeat (first | go_values | go_skip | go_guarded | go_step | go_upon)
  go_at_call 16
  refine (eqNumS least _ _ _ x1.at y1.at (by omega)).mono ?_
  rintro e u9 ⟨rfl, k9⟩
  have K9 := K8.trans k9
  have ow := ow.kept k9
  have x1 := x1.kept k9
  have x2 := x2.kept k9
  have og := og.kept k9
  have y1 := y1.kept k9
  have s9 := k9.size
  clear k9 K8
  clear y1
  dsimp only
  repeat (first | go_values | go_skip | go_guarded | go_step | go_upon)
  go_at_call 14
  refine (toNumS grow _ _ (hv2.kept K9) (by omega)).mono ?_
  rintro e u10 ⟨v10, rfl, y2, k10⟩
  have K10 := K9.trans k10
  have ow := ow.kept k10
  have x1 := x1.kept k10
  have x2 := x2.kept k10
  have og := og.kept k10
  have s10 := k10.size
  clear k10 K9
  obtain ⟨ao10, cap10, hfm⟩ := y2.form
  subst hfm
  dsimp only
  repeat (first | go_values | go_skip | go_guarded | go_step | go_upon)
  go_at_call 16
  refine (eqNumS grow _ _ _ x2.at y2.at (by omega)).mono ?_
  rintro e u11 ⟨rfl, k11⟩
  have K11 := K10.trans k11
  have ow := ow.kept k11
  have x1 := x1.kept k11
  have x2 := x2.kept k11
  have og := og.kept k11
  have y2 := y2.kept k11
  have s11 := k11.size
  clear k11 K10
  clear y2
  dsimp only
  repeat (first | go_values | go_skip | go_guarded | go_step | go_upon)
  go_at_call 17
  refine (markNumS least _ 1 u3.heap.size u4.heap.size _ x1 (by omega)).mono ?_
  rintro e u12 ⟨rfl, -, b12⟩
  rw [HA.out]
  have k12 := b12.inner x1
  have K12 := K11.onto k12 (by omega)
  have ow := ow.but k12 (by omega)
  have x2 := x2.but k12 (by omega)
  have og := og.but k12 (by omega)
  have s12 := k12.size
  clear b12 k12 K11 x1
  dsimp only
  repeat (first | go_values | go_skip | go_guarded | go_step | go_upon)
  go_at_call 17
  refine (markNumS grow _ qa u4.heap.size u5.heap.size _ x2 (by omega)).mono ?_
  rintro e u13 ⟨rfl, -, b13⟩
  rw [HB.out]
  have k13 := b13.inner x2
  have K13 := K12.onto k13 (by omega)
  have ow := ow.but k13 (by omega)
  have og := og.but k13 (by omega)
  have s13 := k13.size
  clear b13 k13 K12 x2
  dsimp only
  repeat (first | go_values | go_skip | go_guarded | go_step | go_upon)
  go_at_call 16
  refine (eqNumS R _ _ _ og.at ow.at (by omega)).mono ?_
  rintro e u14 ⟨rfl, k14⟩
  have K14 := K13.trans k14
  have ow := ow.kept k14
  have og := og.kept k14
  have s14 := k14.size
  clear k14 K13
  dsimp only
  repeat (first | go_values | go_skip | go_guarded | go_step | go_upon)
  go_at_call 17
  refine (markNumS R _ 1 u5.heap.size u6.heap.size _ og (by omega)).mono ?_
  rintro e u15 ⟨rfl, og2, b15⟩
  rw [HD.out]
  have k15 := b15.inner og
  have K15 := K14.onto k15 (by omega)
  have ow := ow.but k15 (by omega)
  have s15 := k15.size
  clear b15 k15 K14 og
  dsimp only
  repeat (first | go_values | go_skip | go_guarded | go_step | go_upon)
  go_at_call 18
  refine (heldNumS R.length _ 1 _ og2.at (by omega)).mono ?_
  rintro e u16 ⟨rfl, k16⟩
  rw [HD.out]
  have K16 := K15.trans k16
  have ow := ow.kept k16
  have og2 := og2.kept k16
  have s16 := k16.size
  clear k16 K15
  dsimp only
  repeat (first | go_values | go_skip | go_guarded | go_step | go_upon)
  go_at_call 14
  refine (toNumS least _ _ (hv1.kept K16) (by omega)).mono ?_
  rintro e u17 ⟨v17, rfl, z1, k17⟩
  have K17 := K16.trans k17
  have ow := ow.kept k17
  have og2 := og2.kept k17
  have s17 := k17.size
  clear k17 K16
  obtain ⟨ao17, cap17, hfm⟩ := z1.form
  subst hfm
  dsimp only
  repeat (first | go_values | go_skip | go_guarded | go_step | go_upon)
  go_at_call 14
  refine (toNumS grow _ _ (hv2.kept K17) (by omega)).mono ?_
  rintro e u18 ⟨v18, rfl, z2, k18⟩
  have K18 := K17.trans k18
  have ow := ow.kept k18
  have og2 := og2.kept k18
  have z1 := z1.kept k18
  have s18 := k18.size
  clear k18 K17
  obtain ⟨ao18, cap18, hfm⟩ := z2.form
  subst hfm
  dsimp only
  repeat (first | go_values | go_skip | go_guarded | go_step | go_upon)
  go_at_call 15
  refine (HI.out _ _ _ z1.at z2.at).mono ?_
  rintro e u19 ⟨v19, rfl, oh, k19⟩
  have K19 := K18.trans k19
  have ow := ow.kept k19
  have og2 := og2.kept k19
  have z1 := z1.kept k19
  have z2 := z2.kept k19
  have s19 := k19.size
  clear k19 K18
  obtain ⟨ao19, cap19, hfm⟩ := oh.form
  subst hfm
  clear z1 z2
  dsimp only
  repeat (first | go_values | go_skip | go_guarded | go_step | go_upon)
  go_at_call 16
  refine (eqNumS R _ _ _ oh.at ow.at (by omega)).mono ?_
  rintro e u20 ⟨rfl, k20⟩
  have K20 := K19.trans k20
  have ow := ow.kept k20
  have og2 := og2.kept k20
  have oh := oh.kept k20
  have s20 := k20.size
  clear k20 K19
  clear oh ow
  dsimp only
  repeat (first | go_values | go_skip | go_guarded | go_step | go_upon)
  go_at_call 18
  refine (heldNumS R.length _ 1 _ og2.at (by omega)).mono ?_
  rintro e u21 ⟨rfl, k21⟩
  rw [HD.out]
  have K21 := K20.trans k21
  have og2 := og2.kept k21
  have s21 := k21.size
  clear k21 K20
  dsimp only
  repeat (first | go_values | go_skip | go_guarded | go_step | go_upon)
  go_ret
  exact ⟨rfl, K21⟩
set_option maxRecDepth 100000 in
set_option maxHeartbeats 8000000 in
theorem big1 (room : Int) (least grow : List NumD) (vl vg : Value) (w : World) (hv1 : NumAt w vl least) (hl1 : 1048576 < least.length) (hm1 : least.length ≤ maxLen) :
    Calls Try.prog 4 #[.int .i64 room, vl, vg] w fun e w' => e = .returned (.bool true) ∧ Kept w w' := by
  unfold maxLen at hm1
  have hda : decide ((1048576 : Int) < (least.length : Int)) = true := by simp; omega
  obtain ⟨ao, cap, hfm⟩ := row_nil hv1
  subst hfm
  go_enter Try.func4, Try.ntmps4
  repeat (first | go_values | go_skip | go_guarded | go_step | go_upon)
  go_ret
  exact ⟨rfl, But.refl _ _ _⟩
set_option maxRecDepth 100000 in
set_option maxHeartbeats 8000000 in
theorem big2 (room : Int) (least grow : List NumD) (vl vg : Value) (w : World) (hv1 : NumAt w vl least) (hv2 : NumAt w vg grow) (hl1 : least.length ≤ 1048576) (hl2 : 1048576 < grow.length) (hm2 : grow.length ≤ maxLen) :
    Calls Try.prog 4 #[.int .i64 room, vl, vg] w fun e w' => e = .returned (.bool true) ∧ Kept w w' := by
  unfold maxLen at hm2
  have hda : decide ((1048576 : Int) < (least.length : Int)) = false := by simp; omega
  have hdb : decide ((1048576 : Int) < (grow.length : Int)) = true := by simp; omega
  obtain ⟨ao, cap, hfm⟩ := row_nil hv1
  subst hfm
  obtain ⟨aog, capg, hfm⟩ := row_nil hv2
  subst hfm
  go_enter Try.func4, Try.ntmps4
  repeat (first | go_values | go_skip | go_guarded | go_step | go_upon)
  go_ret
  exact ⟨rfl, But.refl _ _ _⟩
theorem all (room : Int) (least : List NumD) (vl : Value) {w : World} (hv1 : NumAt w vl least) (_ : ∀ p ∈ least, True) (hm1 : least.length ≤ maxLen) (grow : List NumD) (vg : Value) (hv2 : NumAt w vg grow) (_ : ∀ p ∈ grow, True) (hm2 : grow.length ≤ maxLen) (w' : World) (_ : w' = w) :
    Calls Try.prog 4 #[.int .i64 room, vl, vg] w fun e w' => e = .returned (.bool true) ∧ Kept w w' := by
  by_cases hl1 : least.length ≤ 1048576
  · by_cases hl2 : grow.length ≤ 1048576
    · exact walk room least grow _ _ vl vg w hv1 hv2 hl1 hl2 (by have := roomA_len room least grow; omega) (fun u vl vg h1 h2 => sroom room least grow vl vg u h1 h2 hl1 hl2) (fun u vl vg h1 h2 => iroomS room least grow vl vg u h1 h2 hl1 hl2)
    · exact big2 room least grow vl vg w hv1 hv2 hl1 (by omega) hm2
  · exact big1 room least grow vl vg w hv1 (by omega) hm1


set_option maxRecDepth 100000 in
theorem lifted (os : Os) (started : os.Started) (H : Type) (enc : TypeId × Value → H) :
    ReturnsInHanded {} Try.checked os 4 .any (Rows.fnExactShareRoomSpec.pre6 enc Try.prog Try.f4 Rows.fnExactShareRoomRow.domain false) (Rows.fnExactShareRoomSpec.post enc Try.prog Try.f4 false true false false) := by
  refine returnsInHanded_of_change (C := Try.checked) own started (by kernel_rfl) Try.func4
    (ChangeSpec.witness6 (enc := enc) (C := Try.checked) false ⟨#[], #[.int .i64 0, .slice none 0 0, .slice none 0 0], []⟩ 8 (by kernel_rfl) (by kernel_rfl) (by kernel_rfl) (by kernel_rfl)) ?_
  intro W base args ds gs before hval0 hW hcnd _
  have hval : ∀ (j : Nat) t v, Try.f4.params[j]? = some t → args[j]? = some v → Value.okWide Try.prog W .any base t v := hval0
  have hW' := hW
  obtain ⟨p, q, hA0, hV, rfl, hfz, hnd⟩ := hW
  have hA : DataW.TrodAll enc Try.prog W 0 (fun _ => true) true Try.f4.params.toList args.toList ds p := hA0
  rw [Try.params4] at hA hval
  obtain ⟨v0, vs0, d0, ds0, p0, q0, hargs, rfl, rfl, h0, r0⟩ := trodAll_cons hA
  obtain ⟨v1, vs1, d1, ds1, p1, q1, rfl, rfl, rfl, h1, r1⟩ := trodAll_cons r0
  obtain ⟨v2, vs2, d2, ds2, p2, q2, rfl, rfl, rfl, h2, r2⟩ := trodAll_cons r1
  obtain ⟨rfl, rfl, rfl⟩ := trodAll_nil r2
  obtain rfl : args = #[v0, v1, v2] := by cases args; simp_all
  obtain ⟨rfl, rfl⟩ := trodVars_none hV
  obtain ⟨a0, rfl, rfl, rfl, w0⟩ := open_int Try.underlying3 (hval 0 3 v0 rfl rfl) h0
  obtain ⟨l1, hv1, hq1, hl1⟩ := open_numS (hval 1 29 v1 rfl rfl) h1
  obtain ⟨l2, hv2, hq2, hl2⟩ := open_numS (hval 2 29 v2 rfl rfl) h2
  clear hA0 hval0
  simp only [List.append_nil] at hW'
  refine (all a0 l1 v1 hv1 hq1 hl1 l2 v2 hv2 hq2 hl2 W rfl).mono fun e W' ⟨he, hg⟩ => ?_
  subst he
  exact ⟨_, rfl, post_of_kept (pa := _) (pv := []) hW' (fun _ _ _ => (trodAll_cons_mk (shut_bool Try.underlying4 _) trodAll_mk0)) (fun sp hsp => (trodAll_cons_mk (shut_int Try.underlying3 w0) (trodAll_cons_mk (kept_trod (by kernel_rfl) (of_decide_eq_true (by kernel_rfl)) h1 hg (fun x hx => hW'.lt x (by simp [hx])) (fun x hx => hsp x (by simp [hx]))) (trodAll_cons_mk (kept_trod (by kernel_rfl) (of_decide_eq_true (by kernel_rfl)) h2 hg (fun x hx => hW'.lt x (by simp [hx])) (fun x hx => hsp x (by simp [hx]))) trodAll_mk0)))) (fun _ _ => rfl) hg⟩

theorem over : Rows.fnExactShareRoomRow.holds Try.pinned (OpenSpec.ofChange Rows.fnExactShareRoomSpec) :=
  OpenClaim.holds_of_wide 4 Try.f4 rfl rfl rfl rfl rfl rfl rfl ⟨rfl, rfl, rfl, rfl, rfl⟩ rfl rfl rfl rfl rfl (by kernel_rfl) Try.func4 (by kernel_rfl)
    (of_decide_eq_true (by kernel_rfl)) (by unfold Func.isWrapper; first | (rw [if_pos (by decide +kernel)]; kernel_rfl) | (rw [if_neg (by decide +kernel)]; exact ⟨rfl, rfl⟩))
    (fun os started H enc _ => lifted os started H enc)

theorem proved : Rows.FnExactShareRoomSaid :=
  over
#print axioms proved
end Go.Proofs.Ytaofilinejanjaa.fnExactShareRoom
