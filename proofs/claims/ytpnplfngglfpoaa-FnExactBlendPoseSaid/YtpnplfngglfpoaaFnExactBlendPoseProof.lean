/-
  At all lists of values and of flags and every part the program's BlendPose answers what the specification's BlendPose answers, writes into no argument and keeps nothing of one; its answer owns its memory.
-/
import Derived.Test.YtpnplfngglfpoaaRows
import Derived.Test.YtpnplfngglfpoaaBlendI11
import Derived.Test.YtpnplfngglfpoaaBlendS11
import Derived.Test.YtpnplfngglfpoaaTo
import Derived.Test.YtpnplfngglfpoaaEq
import Derived.Test.YtpnplfngglfpoaaMarks
import Derived.Test.YtpnplfngglfpoaaOpen
import Derived.ChangeMaps
namespace Go.Proofs.Ytpnplfngglfpoaa.fnExactBlendPose
open Go.ChangeShapes Go.WideShapes Go.ChangeAt Go.RowKit
set_option linter.unusedVariables false

theorem own : ownKnob Try.prog.godebug = none := by kernel_rfl

set_option maxRecDepth 100000 in
set_option maxHeartbeats 8000000 in
theorem walk (l l2 : List NumD) (l3 : List FlagD) (pt : Int) (R : List NumD) (jb : Bool) (v v2 v3 : Value) (w : World) (hv : NumAt w v l) (hv2 : NumAt w v2 l2) (hv3 : FlagAt w v3 l3) (hn : l.length ≤ 1048576) (hn2 : l2.length ≤ 1048576) (hn3 : l3.length ≤ 1048576) (hR : R.length ≤ 100000000)
    (hS : ∀ (u : World) (v v2 v3 : Value), NumAt u v l → NumAt u v2 l2 → FlagAt u v3 l3 → Calls Try.prog 35 #[v, v2, .int .i64 pt, v3] u fun e u' => ∃ v', e = .returned (.tuple #[v', .bool jb]) ∧ NumO u' u.heap.size u'.heap.size v' R ∧ Kept u u')
    (hI : ∀ (u : World) (v v2 v3 : Value), NumAt u v l → NumAt u v2 l2 → FlagAt u v3 l3 → Calls Try.prog 37 #[v, v2, .int .i64 pt, v3] u fun e u' => ∃ v', e = .returned (.tuple #[v', .bool jb]) ∧ NumO u' u.heap.size u'.heap.size v' R ∧ Kept u u') :
    Calls Try.prog 9 #[v, v2, .int .i64 pt, v3] w fun e w' => e = .returned (.bool true) ∧ Kept w w' := by
  have hd1 : decide ((1048576 : Int) < (l.length : Int)) = false := by simp; omega
  have hd2 : decide ((1048576 : Int) < (l2.length : Int)) = false := by simp; omega
  have hd3 : decide ((1048576 : Int) < (l3.length : Int)) = false := by simp; omega
  obtain ⟨qa, hHA⟩ : ∃ q : Nat, 1 + l.length = q := ⟨_, rfl⟩
  have HA : Hid (1 + l.length = qa) := hHA
  have bHA : qa ≤ 200000000 := by omega
  have dHA : decide ((qa : Int) < 0) = false := by simp
  clear hHA
  obtain ⟨qb, hHB⟩ : ∃ q : Nat, qa + l2.length = q := ⟨_, rfl⟩
  have HB : Hid (qa + l2.length = qb) := hHB
  have bHB : qb ≤ 300000000 := by omega
  have dHB : decide ((qb : Int) < 0) = false := by simp
  clear hHB
  obtain ⟨qc, hHC⟩ : ∃ q : Nat, qb + l3.length = q := ⟨_, rfl⟩
  have HC : Hid (qb + l3.length = qc) := hHC
  have bHC : qc ≤ 400000000 := by omega
  have dHC : decide ((qc : Int) < 0) = false := by simp
  clear hHC
  obtain ⟨qd, hHD⟩ : ∃ q : Nat, 1 + R.length = q := ⟨_, rfl⟩
  have HD : Hid (1 + R.length = qd) := hHD
  have bHD : qd ≤ 200000000 := by omega
  have dHD : decide ((qd : Int) < 0) = false := by simp
  clear hHD
  obtain ⟨ao, cap, hfm⟩ := row_nil hv
  subst hfm
  obtain ⟨ap, caq, hfm⟩ := row_nil hv2
  subst hfm
  obtain ⟨ar, cas, hfm⟩ := row_nil hv3
  subst hfm
  have HS : Hid _ := hS
  have HI : Hid _ := hI
  clear hS hI
  go_enter Try.func9, Try.ntmps9
  repeat (first | go_values | go_skip | go_guarded | go_step | go_upon)
  go_at_call 26
  refine (toNumS l _ _ hv hn).mono ?_
  rintro e u1 ⟨v1, rfl, t1, k1⟩
  have K1 := k1
  have s1 := k1.size
  clear k1
  obtain ⟨ao1, cap1, hfm⟩ := t1.form
  subst hfm
  dsimp only
  repeat (first | go_values | go_skip | go_guarded | go_step | go_upon)
  go_at_call 26
  refine (toNumS l2 _ _ (hv2.kept K1) hn2).mono ?_
  rintro e u2 ⟨v2, rfl, t2, k2⟩
  have K2 := K1.trans k2
  have t1 := t1.kept k2
  have s2 := k2.size
  clear k2 K1
  obtain ⟨ao2, cap2, hfm⟩ := t2.form
  subst hfm
  dsimp only
  repeat (first | go_values | go_skip | go_guarded | go_step | go_upon)
  go_at_call 36
  refine (toFlagS l3 _ _ (hv3.kept K2) hn3).mono ?_
  rintro e u3 ⟨v3, rfl, t3, k3⟩
  have K3 := K2.trans k3
  have t1 := t1.kept k3
  have t2 := t2.kept k3
  have s3 := k3.size
  clear k3 K2
  obtain ⟨ao3, cap3, hfm⟩ := t3.form
  subst hfm
  dsimp only
  repeat (first | go_values | go_skip | go_guarded | go_step | go_upon)
  go_at_call 35
  refine (HS.out _ _ _ _ t1.at t2.at t3.at).mono ?_
  rintro e u4 ⟨v4, rfl, ow, k4⟩
  have K4 := K3.trans k4
  have t1 := t1.kept k4
  have t2 := t2.kept k4
  have t3 := t3.kept k4
  have s4 := k4.size
  clear k4 K3
  obtain ⟨ao4, cap4, hfm⟩ := ow.form
  subst hfm
  clear t1 t2 t3
  dsimp only
  repeat (first | go_values | go_skip | go_guarded | go_step | go_upon)
  go_at_call 26
  refine (toNumS l _ _ (hv.kept K4) hn).mono ?_
  rintro e u5 ⟨v5, rfl, x0, k5⟩
  have K5 := K4.trans k5
  have ow := ow.kept k5
  have s5 := k5.size
  clear k5 K4
  obtain ⟨ao5, cap5, hfm⟩ := x0.form
  subst hfm
  dsimp only
  repeat (first | go_values | go_skip | go_guarded | go_step | go_upon)
  go_at_call 26
  refine (toNumS l2 _ _ (hv2.kept K5) hn2).mono ?_
  rintro e u6 ⟨v6, rfl, x1, k6⟩
  have K6 := K5.trans k6
  have ow := ow.kept k6
  have x0 := x0.kept k6
  have s6 := k6.size
  clear k6 K5
  obtain ⟨ao6, cap6, hfm⟩ := x1.form
  subst hfm
  dsimp only
  repeat (first | go_values | go_skip | go_guarded | go_step | go_upon)
  go_at_call 36
  refine (toFlagS l3 _ _ (hv3.kept K6) hn3).mono ?_
  rintro e u7 ⟨v7, rfl, x3, k7⟩
  have K7 := K6.trans k7
  have ow := ow.kept k7
  have x0 := x0.kept k7
  have x1 := x1.kept k7
  have s7 := k7.size
  clear k7 K6
  obtain ⟨ao7, cap7, hfm⟩ := x3.form
  subst hfm
  dsimp only
  repeat (first | go_values | go_skip | go_guarded | go_step | go_upon)
  go_at_call 37
  refine (HI.out _ _ _ _ x0.at x1.at x3.at).mono ?_
  rintro e u8 ⟨v8, rfl, og, k8⟩
  have K8 := K7.trans k8
  have ow := ow.kept k8
  have x0 := x0.kept k8
  have x1 := x1.kept k8
  have x3 := x3.kept k8
  have s8 := k8.size
  clear k8 K7
  obtain ⟨ao8, cap8, hfm⟩ := og.form
  subst hfm
  dsimp only
  repeat (first | go_values | go_skip | go_guarded | go_step | go_upon)
  go_at_call 27
  refine (eqNumS R _ _ _ og.at ow.at (by omega)).mono ?_
  rintro e u9 ⟨rfl, k9⟩
  have K9 := K8.trans k9
  have ow := ow.kept k9
  have x0 := x0.kept k9
  have x1 := x1.kept k9
  have x3 := x3.kept k9
  have og := og.kept k9
  have s9 := k9.size
  clear k9 K8
  dsimp only
  repeat (first | go_values | go_skip | go_guarded | go_step | go_upon)
  go_at_call 26
  refine (toNumS l _ _ (hv.kept K9) hn).mono ?_
  rintro e u10 ⟨v10, rfl, y0, k10⟩
  have K10 := K9.trans k10
  have ow := ow.kept k10
  have x0 := x0.kept k10
  have x1 := x1.kept k10
  have x3 := x3.kept k10
  have og := og.kept k10
  have s10 := k10.size
  clear k10 K9
  obtain ⟨ao10, cap10, hfm⟩ := y0.form
  subst hfm
  dsimp only
  repeat (first | go_values | go_skip | go_guarded | go_step | go_upon)
  go_at_call 27
  refine (eqNumS l _ _ _ x0.at y0.at (by omega)).mono ?_
  rintro e u11 ⟨rfl, k11⟩
  have K11 := K10.trans k11
  have ow := ow.kept k11
  have x0 := x0.kept k11
  have x1 := x1.kept k11
  have x3 := x3.kept k11
  have og := og.kept k11
  have y0 := y0.kept k11
  have s11 := k11.size
  clear k11 K10
  clear y0
  dsimp only
  repeat (first | go_values | go_skip | go_guarded | go_step | go_upon)
  go_at_call 26
  refine (toNumS l2 _ _ (hv2.kept K11) hn2).mono ?_
  rintro e u12 ⟨v12, rfl, y1, k12⟩
  have K12 := K11.trans k12
  have ow := ow.kept k12
  have x0 := x0.kept k12
  have x1 := x1.kept k12
  have x3 := x3.kept k12
  have og := og.kept k12
  have s12 := k12.size
  clear k12 K11
  obtain ⟨ao12, cap12, hfm⟩ := y1.form
  subst hfm
  dsimp only
  repeat (first | go_values | go_skip | go_guarded | go_step | go_upon)
  go_at_call 27
  refine (eqNumS l2 _ _ _ x1.at y1.at (by omega)).mono ?_
  rintro e u13 ⟨rfl, k13⟩
  have K13 := K12.trans k13
  have ow := ow.kept k13
  have x0 := x0.kept k13
  have x1 := x1.kept k13
  have x3 := x3.kept k13
  have og := og.kept k13
  have y1 := y1.kept k13
  have s13 := k13.size
  clear k13 K12
  clear y1
  dsimp only
  repeat (first | go_values | go_skip | go_guarded | go_step | go_upon)
  go_at_call 36
  refine (toFlagS l3 _ _ (hv3.kept K13) hn3).mono ?_
  rintro e u14 ⟨v14, rfl, y3, k14⟩
  have K14 := K13.trans k14
  have ow := ow.kept k14
  have x0 := x0.kept k14
  have x1 := x1.kept k14
  have x3 := x3.kept k14
  have og := og.kept k14
  have s14 := k14.size
  clear k14 K13
  obtain ⟨ao14, cap14, hfm⟩ := y3.form
  subst hfm
  dsimp only
  repeat (first | go_values | go_skip | go_guarded | go_step | go_upon)
  go_at_call 38
  refine (eqFlagS l3 _ _ _ x3.at y3.at (by omega)).mono ?_
  rintro e u15 ⟨rfl, k15⟩
  have K15 := K14.trans k15
  have ow := ow.kept k15
  have x0 := x0.kept k15
  have x1 := x1.kept k15
  have x3 := x3.kept k15
  have og := og.kept k15
  have y3 := y3.kept k15
  have s15 := k15.size
  clear k15 K14
  clear y3
  dsimp only
  repeat (first | go_values | go_skip | go_guarded | go_step | go_upon)
  go_at_call 28
  refine (markNumS l _ 1 u4.heap.size u5.heap.size _ x0 (by omega)).mono ?_
  rintro e u16 ⟨rfl, -, b16⟩
  rw [HA.out]
  have k16 := b16.inner x0
  have K16 := K15.onto k16 (by omega)
  have ow := ow.but k16 (by omega)
  have x1 := x1.but k16 (by omega)
  have x3 := x3.but k16 (by omega)
  have og := og.but k16 (by omega)
  have s16 := k16.size
  clear b16 k16 K15 x0
  dsimp only
  repeat (first | go_values | go_skip | go_guarded | go_step | go_upon)
  go_at_call 28
  refine (markNumS l2 _ qa u5.heap.size u6.heap.size _ x1 (by omega)).mono ?_
  rintro e u17 ⟨rfl, -, b17⟩
  rw [HB.out]
  have k17 := b17.inner x1
  have K17 := K16.onto k17 (by omega)
  have ow := ow.but k17 (by omega)
  have x3 := x3.but k17 (by omega)
  have og := og.but k17 (by omega)
  have s17 := k17.size
  clear b17 k17 K16 x1
  dsimp only
  repeat (first | go_values | go_skip | go_guarded | go_step | go_upon)
  go_at_call 39
  refine (markFlagS l3 _ qb u6.heap.size u7.heap.size _ x3 (by omega)).mono ?_
  rintro e u18 ⟨rfl, -, b18⟩
  rw [HC.out]
  have k18 := b18.inner x3
  have K18 := K17.onto k18 (by omega)
  have ow := ow.but k18 (by omega)
  have og := og.but k18 (by omega)
  have s18 := k18.size
  clear b18 k18 K17 x3
  dsimp only
  repeat (first | go_values | go_skip | go_guarded | go_step | go_upon)
  go_at_call 27
  refine (eqNumS R _ _ _ og.at ow.at (by omega)).mono ?_
  rintro e u19 ⟨rfl, k19⟩
  have K19 := K18.trans k19
  have ow := ow.kept k19
  have og := og.kept k19
  have s19 := k19.size
  clear k19 K18
  dsimp only
  repeat (first | go_values | go_skip | go_guarded | go_step | go_upon)
  go_at_call 28
  refine (markNumS R _ 1 u7.heap.size u8.heap.size _ og (by omega)).mono ?_
  rintro e u20 ⟨rfl, og2, b20⟩
  rw [HD.out]
  have k20 := b20.inner og
  have K20 := K19.onto k20 (by omega)
  have ow := ow.but k20 (by omega)
  have s20 := k20.size
  clear b20 k20 K19 og
  dsimp only
  repeat (first | go_values | go_skip | go_guarded | go_step | go_upon)
  go_at_call 34
  refine (heldNumS R.length _ 1 _ og2.at (by omega)).mono ?_
  rintro e u21 ⟨rfl, k21⟩
  rw [HD.out]
  have K21 := K20.trans k21
  have ow := ow.kept k21
  have og2 := og2.kept k21
  have s21 := k21.size
  clear k21 K20
  dsimp only
  repeat (first | go_values | go_skip | go_guarded | go_step | go_upon)
  go_at_call 26
  refine (toNumS l _ _ (hv.kept K21) hn).mono ?_
  rintro e u22 ⟨v22, rfl, z0, k22⟩
  have K22 := K21.trans k22
  have ow := ow.kept k22
  have og2 := og2.kept k22
  have s22 := k22.size
  clear k22 K21
  obtain ⟨ao22, cap22, hfm⟩ := z0.form
  subst hfm
  dsimp only
  repeat (first | go_values | go_skip | go_guarded | go_step | go_upon)
  go_at_call 26
  refine (toNumS l2 _ _ (hv2.kept K22) hn2).mono ?_
  rintro e u23 ⟨v23, rfl, z1, k23⟩
  have K23 := K22.trans k23
  have ow := ow.kept k23
  have og2 := og2.kept k23
  have z0 := z0.kept k23
  have s23 := k23.size
  clear k23 K22
  obtain ⟨ao23, cap23, hfm⟩ := z1.form
  subst hfm
  dsimp only
  repeat (first | go_values | go_skip | go_guarded | go_step | go_upon)
  go_at_call 36
  refine (toFlagS l3 _ _ (hv3.kept K23) hn3).mono ?_
  rintro e u24 ⟨v24, rfl, z3, k24⟩
  have K24 := K23.trans k24
  have ow := ow.kept k24
  have og2 := og2.kept k24
  have z0 := z0.kept k24
  have z1 := z1.kept k24
  have s24 := k24.size
  clear k24 K23
  obtain ⟨ao24, cap24, hfm⟩ := z3.form
  subst hfm
  dsimp only
  repeat (first | go_values | go_skip | go_guarded | go_step | go_upon)
  go_at_call 37
  refine (HI.out _ _ _ _ z0.at z1.at z3.at).mono ?_
  rintro e u25 ⟨v25, rfl, oh, k25⟩
  have K25 := K24.trans k25
  have ow := ow.kept k25
  have og2 := og2.kept k25
  have z0 := z0.kept k25
  have z1 := z1.kept k25
  have z3 := z3.kept k25
  have s25 := k25.size
  clear k25 K24
  obtain ⟨ao25, cap25, hfm⟩ := oh.form
  subst hfm
  clear z0 z1 z3
  dsimp only
  repeat (first | go_values | go_skip | go_guarded | go_step | go_upon)
  go_at_call 27
  refine (eqNumS R _ _ _ oh.at ow.at (by omega)).mono ?_
  rintro e u26 ⟨rfl, k26⟩
  have K26 := K25.trans k26
  have ow := ow.kept k26
  have og2 := og2.kept k26
  have oh := oh.kept k26
  have s26 := k26.size
  clear k26 K25
  clear oh ow
  dsimp only
  repeat (first | go_values | go_skip | go_guarded | go_step | go_upon)
  go_at_call 34
  refine (heldNumS R.length _ 1 _ og2.at (by omega)).mono ?_
  rintro e u27 ⟨rfl, k27⟩
  rw [HD.out]
  have K27 := K26.trans k27
  have og2 := og2.kept k27
  have s27 := k27.size
  clear k27 K26
  dsimp only
  repeat (first | go_values | go_skip | go_guarded | go_step | go_upon)
  go_ret
  exact ⟨rfl, K27⟩

set_option maxRecDepth 100000 in
theorem big0 (l l2 : List NumD) (l3 : List FlagD) (pt : Int) (v v2 v3 : Value) (w : World) (hv : NumAt w v l) (hv2 : NumAt w v2 l2) (hv3 : FlagAt w v3 l3)  (hl : 1048576 < l.length) :
    Calls Try.prog 9 #[v, v2, .int .i64 pt, v3] w fun e w' => e = .returned (.bool true) ∧ Kept w w' := by
  have hd0 : decide ((1048576 : Int) < (l.length : Int)) = true := by simp; omega
  obtain ⟨ao, cap, hfm⟩ := row_nil hv
  subst hfm
  obtain ⟨ap, caq, hfm⟩ := row_nil hv2
  subst hfm
  obtain ⟨ar, cas, hfm⟩ := row_nil hv3
  subst hfm
  go_enter Try.func9, Try.ntmps9
  repeat (first | go_values | go_skip | go_guarded | go_step | go_upon)
  go_ret
  exact ⟨rfl, But.refl _ _ _⟩

set_option maxRecDepth 100000 in
theorem big1 (l l2 : List NumD) (l3 : List FlagD) (pt : Int) (v v2 v3 : Value) (w : World) (hv : NumAt w v l) (hv2 : NumAt w v2 l2) (hv3 : FlagAt w v3 l3) (hn0 : l.length ≤ 1048576) (hl : 1048576 < l2.length) :
    Calls Try.prog 9 #[v, v2, .int .i64 pt, v3] w fun e w' => e = .returned (.bool true) ∧ Kept w w' := by
  have hd0 : decide ((1048576 : Int) < (l.length : Int)) = false := by simp; omega
  have hd1 : decide ((1048576 : Int) < (l2.length : Int)) = true := by simp; omega
  obtain ⟨ao, cap, hfm⟩ := row_nil hv
  subst hfm
  obtain ⟨ap, caq, hfm⟩ := row_nil hv2
  subst hfm
  obtain ⟨ar, cas, hfm⟩ := row_nil hv3
  subst hfm
  go_enter Try.func9, Try.ntmps9
  repeat (first | go_values | go_skip | go_guarded | go_step | go_upon)
  go_ret
  exact ⟨rfl, But.refl _ _ _⟩

set_option maxRecDepth 100000 in
theorem big2 (l l2 : List NumD) (l3 : List FlagD) (pt : Int) (v v2 v3 : Value) (w : World) (hv : NumAt w v l) (hv2 : NumAt w v2 l2) (hv3 : FlagAt w v3 l3) (hn0 : l.length ≤ 1048576) (hn1 : l2.length ≤ 1048576) (hl : 1048576 < l3.length) :
    Calls Try.prog 9 #[v, v2, .int .i64 pt, v3] w fun e w' => e = .returned (.bool true) ∧ Kept w w' := by
  have hd0 : decide ((1048576 : Int) < (l.length : Int)) = false := by simp; omega
  have hd1 : decide ((1048576 : Int) < (l2.length : Int)) = false := by simp; omega
  have hd2 : decide ((1048576 : Int) < (l3.length : Int)) = true := by simp; omega
  obtain ⟨ao, cap, hfm⟩ := row_nil hv
  subst hfm
  obtain ⟨ap, caq, hfm⟩ := row_nil hv2
  subst hfm
  obtain ⟨ar, cas, hfm⟩ := row_nil hv3
  subst hfm
  go_enter Try.func9, Try.ntmps9
  repeat (first | go_values | go_skip | go_guarded | go_step | go_upon)
  go_ret
  exact ⟨rfl, But.refl _ _ _⟩

theorem all (l : List NumD) (v : Value) {w : World} (hv : NumAt w v l) (_ : ∀ p ∈ l, True) (hm : l.length ≤ maxLen) (l2 : List NumD) (v2 : Value) (hv2 : NumAt w v2 l2) (_ : ∀ p ∈ l2, True) (hm2 : l2.length ≤ maxLen) (pt : Int) (l3 : List FlagD) (v3 : Value) (hv3 : FlagAt w v3 l3) (_ : ∀ p ∈ l3, True) (hm3 : l3.length ≤ maxLen) (w' : World) (_ : w' = w) :
    Calls Try.prog 9 #[v, v2, .int .i64 pt, v3] w fun e w' => e = .returned (.bool true) ∧ Kept w w' := by
  by_cases h1 : l.length ≤ 1048576
  · by_cases h2 : l2.length ≤ 1048576
    · by_cases h3 : l3.length ≤ 1048576
      · exact walk l l2 l3 pt (blendA l l2 pt l3).1 (blendA l l2 pt l3).2 v v2 v3 w hv hv2 hv3 h1 h2 h3 (by have := blendA_len l l2 pt l3; omega) (fun u v v2 v3 a b c => sblend l l2 pt l3 v v2 v3 u a b c (by omega) (by omega) (by omega)) (fun u v v2 v3 a b c => iblend l l2 pt l3 v v2 v3 u a b c (by omega) (by omega) (by omega))
      · exact big2 l l2 l3 pt v v2 v3 w hv hv2 hv3 h1 h2 (by omega)
    · exact big1 l l2 l3 pt v v2 v3 w hv hv2 hv3 h1 (by omega)
  · exact big0 l l2 l3 pt v v2 v3 w hv hv2 hv3 (by omega)


set_option maxRecDepth 100000 in
theorem lifted (os : Os) (started : os.Started) (H : Type) (enc : TypeId × Value → H) :
    ReturnsInHanded {} Try.checked os 9 .any (Rows.fnExactBlendPoseSpec.pre6 enc Try.prog Try.f9 Rows.fnExactBlendPoseRow.domain false) (Rows.fnExactBlendPoseSpec.post enc Try.prog Try.f9 false true false false) := by
  refine returnsInHanded_of_change (C := Try.checked) own started (by kernel_rfl) Try.func9
    (ChangeSpec.witness6 (enc := enc) (C := Try.checked) false ⟨#[], #[.slice none 0 0, .slice none 0 0, .int .i64 0, .slice none 0 0], []⟩ 8 (by kernel_rfl) (by kernel_rfl) (by kernel_rfl) (by kernel_rfl)) ?_
  intro W base args ds gs before hval0 hW hcnd _
  have hval : ∀ (j : Nat) t v, Try.f9.params[j]? = some t → args[j]? = some v → Value.okWide Try.prog W .any base t v := hval0
  have hW' := hW
  obtain ⟨p, q, hA0, hV, rfl, hfz, hnd⟩ := hW
  have hA : DataW.TrodAll enc Try.prog W 0 (fun _ => true) true Try.f9.params.toList args.toList ds p := hA0
  rw [Try.params9] at hA hval
  obtain ⟨v0, vs0, d0, ds0, p0, q0, hargs, rfl, rfl, h0, r0⟩ := trodAll_cons hA
  obtain ⟨v1, vs1, d1, ds1, p1, q1, rfl, rfl, rfl, h1, r1⟩ := trodAll_cons r0
  obtain ⟨v2, vs2, d2, ds2, p2, q2, rfl, rfl, rfl, h2, r2⟩ := trodAll_cons r1
  obtain ⟨v3, vs3, d3, ds3, p3, q3, rfl, rfl, rfl, h3, r3⟩ := trodAll_cons r2
  obtain ⟨rfl, rfl, rfl⟩ := trodAll_nil r3
  obtain rfl : args = #[v0, v1, v2, v3] := by cases args; simp_all
  obtain ⟨rfl, rfl⟩ := trodVars_none hV
  obtain ⟨l0, hv0, hq0, hl0⟩ := open_numS (hval 0 23 v0 rfl rfl) h0
  obtain ⟨l1, hv1, hq1, hl1⟩ := open_numS (hval 1 23 v1 rfl rfl) h1
  obtain ⟨a2, rfl, rfl, rfl, w2⟩ := open_int Try.underlying3 (hval 2 3 v2 rfl rfl) h2
  obtain ⟨l3, hv3, hq3, hl3⟩ := open_flagS (hval 3 64 v3 rfl rfl) h3
  clear hA0 hval0
  simp only [List.append_nil] at hW'
  refine (all l0 v0 hv0 hq0 hl0 l1 v1 hv1 hq1 hl1 a2 l3 v3 hv3 hq3 hl3 W rfl).mono fun e W' ⟨he, hg⟩ => ?_
  subst he
  exact ⟨_, rfl, post_of_kept (pa := _) (pv := []) hW' (fun _ _ _ => (trodAll_cons_mk (shut_bool Try.underlying4 _) trodAll_mk0)) (fun sp hsp => (trodAll_cons_mk (kept_trod (by kernel_rfl) (of_decide_eq_true (by kernel_rfl)) h0 hg (fun x hx => hW'.lt x (by simp [hx])) (fun x hx => hsp x (by simp [hx]))) (trodAll_cons_mk (kept_trod (by kernel_rfl) (of_decide_eq_true (by kernel_rfl)) h1 hg (fun x hx => hW'.lt x (by simp [hx])) (fun x hx => hsp x (by simp [hx]))) (trodAll_cons_mk (shut_int Try.underlying3 w2) (trodAll_cons_mk (kept_trod (by kernel_rfl) (of_decide_eq_true (by kernel_rfl)) h3 hg (fun x hx => hW'.lt x (by simp [hx])) (fun x hx => hsp x (by simp [hx]))) trodAll_mk0))))) (fun _ _ => rfl) hg⟩

theorem over : Rows.fnExactBlendPoseRow.holds Try.pinned (OpenSpec.ofChange Rows.fnExactBlendPoseSpec) :=
  OpenClaim.holds_of_wide 9 Try.f9 rfl rfl rfl rfl rfl rfl rfl ⟨rfl, rfl, rfl, rfl, rfl⟩ rfl rfl rfl rfl rfl (by kernel_rfl) Try.func9 (by kernel_rfl)
    (of_decide_eq_true (by kernel_rfl)) (by unfold Func.isWrapper; first | (rw [if_pos (by decide +kernel)]; kernel_rfl) | (rw [if_neg (by decide +kernel)]; exact ⟨rfl, rfl⟩))
    (fun os started H enc _ => lifted os started H enc)

theorem proved : Rows.FnExactBlendPoseSaid :=
  over
#print axioms proved
end Go.Proofs.Ytpnplfngglfpoaa.fnExactBlendPose
