/-
  At every two lists of entries the program's MissingIn answers what the specification's MissingIn answers, writes into no argument and keeps nothing of one; its answer owns its memory.
-/
import Derived.Test.YtgbgnmjgnfocmaaRows
import Derived.Test.YtgbgnmjgnfocmaaEntriesO
import Derived.Test.YtgbgnmjgnfocmaaEMk19
import Derived.Test.YtgbgnmjgnfocmaaTxtM
import Derived.Test.YtgbgnmjgnfocmaaSMiss19
import Derived.Test.YtgbgnmjgnfocmaaIMiss19
import Derived.ChangeMaps
namespace Go.Proofs.Ytgbgnmjgnfocmaa.fnExactMissingIn
open Go.ChangeShapes Go.WideShapes Go.ChangeAt Go.RowKit
set_option linter.unusedVariables false

theorem own : ownKnob Try.prog.godebug = none := by kernel_rfl

set_option maxRecDepth 100000 in
set_option maxHeartbeats 8000000 in
theorem walk (l m : List EntryD) (R : List TxtD) (jb : Bool) (v v2 : Value) (w : World) (hv : EntriesAt w v l) (hf : EntriesFit l) (hv2 : EntriesAt w v2 m) (hf2 : EntriesFit m) (hc : entriesCost l + entriesCost m ≤ 1048576) (hl : entriesCost l ≤ 1048576) (hm : entriesCost m ≤ 1048576) (hR : R.length ≤ 100000000)
    (hS : ∀ (u : World) (v v2 : Value), EntriesAt u v l → EntriesAt u v2 m → Calls Try.prog 5 #[v, v2] u fun e u' => ∃ v', e = .returned (.tuple #[v', .bool jb]) ∧ TxtO u' u.heap.size u'.heap.size v' R ∧ Kept u u')
    (hI : ∀ (u : World) (v v2 : Value), EntriesAt u v l → EntriesAt u v2 m → Calls Try.prog 7 #[v, v2] u fun e u' => ∃ v', e = .returned (.tuple #[v', .bool jb]) ∧ TxtO u' u.heap.size u'.heap.size v' R ∧ Kept u u') :
    Calls Try.prog 3 #[v, v2] w fun e w' => e = .returned (.bool true) ∧ Kept w w' := by
  have hn : l.length ≤ 1048576 := by unfold entriesCost at hl; omega
  have hn2 : m.length ≤ 1048576 := by unfold entriesCost at hm; omega
  have hm1 := bMk_cost l
  have hm2 := bMk_cost m
  have hd1 : decide ((1048576 : Int) - (entriesCost l : Int) < 0) = false := by simp; omega
  have hd2 : decide ((1048576 : Int) - (entriesCost l : Int) - (entriesCost m : Int) < 0) = false := by simp; omega
  obtain ⟨qa, hHA⟩ : ∃ q : Nat, 1 + bMk l = q := ⟨_, rfl⟩
  have HA : Hid (1 + bMk l = qa) := hHA
  have bHA : qa ≤ 200000000 := by omega
  have dHA : decide ((qa : Int) < 0) = false := by simp
  clear hHA
  obtain ⟨qb, hHB⟩ : ∃ q : Nat, qa + bMk m = q := ⟨_, rfl⟩
  have HB : Hid (qa + bMk m = qb) := hHB
  have bHB : qb ≤ 300000000 := by omega
  have dHB : decide ((qb : Int) < 0) = false := by simp
  clear hHB
  obtain ⟨qd, hHD⟩ : ∃ q : Nat, 1 + R.length = q := ⟨_, rfl⟩
  have HD : Hid (1 + R.length = qd) := hHD
  have bHD : qd ≤ 200000000 := by omega
  have dHD : decide ((qd : Int) < 0) = false := by simp
  clear hHD
  obtain ⟨ao, cap, hfm⟩ := hv.form
  subst hfm
  obtain ⟨ap, caq, hfm⟩ := hv2.form
  subst hfm
  have HS : Hid _ := hS
  have HI : Hid _ := hI
  clear hS hI
  go_enter Try.func3, Try.ntmps3
  repeat (first | go_values | go_skip | go_guarded | go_step | go_upon)
  go_at_call 4
  refine (szEntries l _ _ _ hv (by omega) (by omega) (by omega) hf).mono ?_
  rintro e u1 ⟨rfl, k1⟩
  rw [leftOf_yes (by omega)]
  have K1 := k1
  have s1 := k1.size
  clear k1
  dsimp only
  repeat (first | go_values | go_skip | go_guarded | go_step | go_upon)
  go_at_call 4
  refine (szEntries m _ _ _ (hv2.kept K1) (by omega) (by omega) (by omega) hf2).mono ?_
  rintro e u2 ⟨rfl, k2⟩
  rw [leftOf_yes (by omega)]
  have K2 := K1.trans k2
  have s2 := k2.size
  clear k2 K1
  dsimp only
  repeat (first | go_values | go_skip | go_guarded | go_step | go_upon)
  go_at_call 6
  refine (toEntries l _ _ (hv.kept K2) hl).mono ?_
  rintro e u3 ⟨v3, rfl, t1, k3⟩
  have K3 := K2.trans k3
  have s3 := k3.size
  clear k3 K2
  obtain ⟨ao3, cap3, hfm⟩ := t1.form
  subst hfm
  dsimp only
  repeat (first | go_values | go_skip | go_guarded | go_step | go_upon)
  go_at_call 6
  refine (toEntries m _ _ (hv2.kept K3) hm).mono ?_
  rintro e u4 ⟨v4, rfl, t2, k4⟩
  have K4 := K3.trans k4
  have t1 := t1.kept k4
  have s4 := k4.size
  clear k4 K3
  obtain ⟨ao4, cap4, hfm⟩ := t2.form
  subst hfm
  dsimp only
  repeat (first | go_values | go_skip | go_guarded | go_step | go_upon)
  go_at_call 5
  refine (HS.out _ _ _ t1.at t2.at).mono ?_
  rintro e u5 ⟨v5, rfl, ow, k5⟩
  have K5 := K4.trans k5
  have t1 := t1.kept k5
  have t2 := t2.kept k5
  have s5 := k5.size
  clear k5 K4
  obtain ⟨ao5, cap5, hfm⟩ := ow.form
  subst hfm
  clear t1 t2
  dsimp only
  repeat (first | go_values | go_skip | go_guarded | go_step | go_upon)
  go_at_call 6
  refine (toEntries l _ _ (hv.kept K5) hl).mono ?_
  rintro e u6 ⟨v6, rfl, x0, k6⟩
  have K6 := K5.trans k6
  have ow := ow.kept k6
  have s6 := k6.size
  clear k6 K5
  obtain ⟨ao6, cap6, hfm⟩ := x0.form
  subst hfm
  dsimp only
  repeat (first | go_values | go_skip | go_guarded | go_step | go_upon)
  go_at_call 6
  refine (toEntries m _ _ (hv2.kept K6) hm).mono ?_
  rintro e u7 ⟨v7, rfl, x1, k7⟩
  have K7 := K6.trans k7
  have ow := ow.kept k7
  have x0 := x0.kept k7
  have s7 := k7.size
  clear k7 K6
  obtain ⟨ao7, cap7, hfm⟩ := x1.form
  subst hfm
  dsimp only
  repeat (first | go_values | go_skip | go_guarded | go_step | go_upon)
  go_at_call 7
  refine (HI.out _ _ _ x0.at x1.at).mono ?_
  rintro e u8 ⟨v8, rfl, og, k8⟩
  have K8 := K7.trans k8
  have ow := ow.kept k8
  have x0 := x0.kept k8
  have x1 := x1.kept k8
  have s8 := k8.size
  clear k8 K7
  obtain ⟨ao8, cap8, hfm⟩ := og.form
  subst hfm
  dsimp only
  repeat (first | go_values | go_skip | go_guarded | go_step | go_upon)
  go_at_call 8
  refine (eqTxtS R _ _ _ og.at ow.at (by omega)).mono ?_
  rintro e u9 ⟨rfl, k9⟩
  have K9 := K8.trans k9
  have ow := ow.kept k9
  have x0 := x0.kept k9
  have x1 := x1.kept k9
  have og := og.kept k9
  have s9 := k9.size
  clear k9 K8
  dsimp only
  repeat (first | go_values | go_skip | go_guarded | go_step | go_upon)
  go_at_call 6
  refine (toEntries l _ _ (hv.kept K9) hl).mono ?_
  rintro e u10 ⟨v10, rfl, y0, k10⟩
  have K10 := K9.trans k10
  have ow := ow.kept k10
  have x0 := x0.kept k10
  have x1 := x1.kept k10
  have og := og.kept k10
  have s10 := k10.size
  clear k10 K9
  obtain ⟨ao10, cap10, hfm⟩ := y0.form
  subst hfm
  dsimp only
  repeat (first | go_values | go_skip | go_guarded | go_step | go_upon)
  go_at_call 9
  refine (eqEntries l _ _ _ x0.at y0.at (by omega)).mono ?_
  rintro e u11 ⟨rfl, k11⟩
  have K11 := K10.trans k11
  have ow := ow.kept k11
  have x0 := x0.kept k11
  have x1 := x1.kept k11
  have og := og.kept k11
  have y0 := y0.kept k11
  have s11 := k11.size
  clear k11 K10
  clear y0
  dsimp only
  repeat (first | go_values | go_skip | go_guarded | go_step | go_upon)
  go_at_call 6
  refine (toEntries m _ _ (hv2.kept K11) hm).mono ?_
  rintro e u12 ⟨v12, rfl, y1, k12⟩
  have K12 := K11.trans k12
  have ow := ow.kept k12
  have x0 := x0.kept k12
  have x1 := x1.kept k12
  have og := og.kept k12
  have s12 := k12.size
  clear k12 K11
  obtain ⟨ao12, cap12, hfm⟩ := y1.form
  subst hfm
  dsimp only
  repeat (first | go_values | go_skip | go_guarded | go_step | go_upon)
  go_at_call 9
  refine (eqEntries m _ _ _ x1.at y1.at (by omega)).mono ?_
  rintro e u13 ⟨rfl, k13⟩
  have K13 := K12.trans k13
  have ow := ow.kept k13
  have x0 := x0.kept k13
  have x1 := x1.kept k13
  have og := og.kept k13
  have y1 := y1.kept k13
  have s13 := k13.size
  clear k13 K12
  clear y1
  dsimp only
  repeat (first | go_values | go_skip | go_guarded | go_step | go_upon)
  go_at_call 10
  refine (markEntries l _ 1 u5.heap.size u6.heap.size _ x0 (by omega)).mono ?_
  rintro e u14 ⟨rfl, b14⟩
  rw [HA.out]
  have k14 := b14
  have K14 := K13.onto k14 (by omega)
  have ow := ow.but k14 (by omega)
  have x1 := x1.but k14 (by omega)
  have og := og.but k14 (by omega)
  have s14 := k14.size
  clear b14 k14 K13 x0
  dsimp only
  repeat (first | go_values | go_skip | go_guarded | go_step | go_upon)
  go_at_call 10
  refine (markEntries m _ qa u6.heap.size u7.heap.size _ x1 (by omega)).mono ?_
  rintro e u15 ⟨rfl, b15⟩
  rw [HB.out]
  have k15 := b15
  have K15 := K14.onto k15 (by omega)
  have ow := ow.but k15 (by omega)
  have og := og.but k15 (by omega)
  have s15 := k15.size
  clear b15 k15 K14 x1
  dsimp only
  repeat (first | go_values | go_skip | go_guarded | go_step | go_upon)
  go_at_call 8
  refine (eqTxtS R _ _ _ og.at ow.at (by omega)).mono ?_
  rintro e u16 ⟨rfl, k16⟩
  have K16 := K15.trans k16
  have ow := ow.kept k16
  have og := og.kept k16
  have s16 := k16.size
  clear k16 K15
  dsimp only
  repeat (first | go_values | go_skip | go_guarded | go_step | go_upon)
  go_at_call 11
  refine (markTxtS R _ 1 u7.heap.size u8.heap.size _ og (by omega)).mono ?_
  rintro e u17 ⟨rfl, og2, b17⟩
  rw [HD.out]
  have k17 := b17.inner og
  have K17 := K16.onto k17 (by omega)
  have ow := ow.but k17 (by omega)
  have s17 := k17.size
  clear b17 k17 K16 og
  dsimp only
  repeat (first | go_values | go_skip | go_guarded | go_step | go_upon)
  go_at_call 12
  refine (heldTxtS R.length _ 1 _ og2.at (by omega)).mono ?_
  rintro e u18 ⟨rfl, k18⟩
  rw [HD.out]
  have K18 := K17.trans k18
  have ow := ow.kept k18
  have og2 := og2.kept k18
  have s18 := k18.size
  clear k18 K17
  dsimp only
  repeat (first | go_values | go_skip | go_guarded | go_step | go_upon)
  go_at_call 6
  refine (toEntries l _ _ (hv.kept K18) hl).mono ?_
  rintro e u19 ⟨v19, rfl, z0, k19⟩
  have K19 := K18.trans k19
  have ow := ow.kept k19
  have og2 := og2.kept k19
  have s19 := k19.size
  clear k19 K18
  obtain ⟨ao19, cap19, hfm⟩ := z0.form
  subst hfm
  dsimp only
  repeat (first | go_values | go_skip | go_guarded | go_step | go_upon)
  go_at_call 6
  refine (toEntries m _ _ (hv2.kept K19) hm).mono ?_
  rintro e u20 ⟨v20, rfl, z1, k20⟩
  have K20 := K19.trans k20
  have ow := ow.kept k20
  have og2 := og2.kept k20
  have z0 := z0.kept k20
  have s20 := k20.size
  clear k20 K19
  obtain ⟨ao20, cap20, hfm⟩ := z1.form
  subst hfm
  dsimp only
  repeat (first | go_values | go_skip | go_guarded | go_step | go_upon)
  go_at_call 7
  refine (HI.out _ _ _ z0.at z1.at).mono ?_
  rintro e u21 ⟨v21, rfl, oh, k21⟩
  have K21 := K20.trans k21
  have ow := ow.kept k21
  have og2 := og2.kept k21
  have z0 := z0.kept k21
  have z1 := z1.kept k21
  have s21 := k21.size
  clear k21 K20
  obtain ⟨ao21, cap21, hfm⟩ := oh.form
  subst hfm
  clear z0 z1
  dsimp only
  repeat (first | go_values | go_skip | go_guarded | go_step | go_upon)
  go_at_call 8
  refine (eqTxtS R _ _ _ oh.at ow.at (by omega)).mono ?_
  rintro e u22 ⟨rfl, k22⟩
  have K22 := K21.trans k22
  have ow := ow.kept k22
  have og2 := og2.kept k22
  have oh := oh.kept k22
  have s22 := k22.size
  clear k22 K21
  clear oh ow
  dsimp only
  repeat (first | go_values | go_skip | go_guarded | go_step | go_upon)
  go_at_call 12
  refine (heldTxtS R.length _ 1 _ og2.at (by omega)).mono ?_
  rintro e u23 ⟨rfl, k23⟩
  rw [HD.out]
  have K23 := K22.trans k23
  have og2 := og2.kept k23
  have s23 := k23.size
  clear k23 K22
  dsimp only
  repeat (first | go_values | go_skip | go_guarded | go_step | go_upon)
  go_ret
  exact ⟨rfl, K23⟩
set_option maxRecDepth 100000 in
set_option maxHeartbeats 8000000 in
theorem big1 (l m : List EntryD) (v v2 : Value) (w : World) (hv : EntriesAt w v l) (hf : EntriesFit l) (hv2 : EntriesAt w v2 m) (hf2 : EntriesFit m) (hlen : l.length ≤ maxLen) (hl : 1048576 < entriesCost l) :
    Calls Try.prog 3 #[v, v2] w fun e w' => e = .returned (.bool true) ∧ Kept w w' := by
  unfold maxLen at hlen
  obtain ⟨ao, cap, hfm⟩ := hv.form
  subst hfm
  obtain ⟨ap, caq, hfm⟩ := hv2.form
  subst hfm
  go_enter Try.func3, Try.ntmps3
  repeat (first | go_values | go_skip | go_guarded | go_step | go_upon)
  go_at_call 4
  refine (szEntries l _ _ _ hv (by omega) (by omega) (by omega) hf).mono ?_
  rintro e u1 ⟨rfl, k1⟩
  rw [leftOf_no (by omega)]
  dsimp only
  repeat (first | go_values | go_skip | go_guarded | go_step | go_upon)
  go_ret
  exact ⟨rfl, k1⟩
set_option maxRecDepth 100000 in
set_option maxHeartbeats 8000000 in
theorem big2 (l m : List EntryD) (v v2 : Value) (w : World) (hv : EntriesAt w v l) (hf : EntriesFit l) (hv2 : EntriesAt w v2 m) (hf2 : EntriesFit m) (hlen : l.length ≤ maxLen) (hlen2 : m.length ≤ maxLen) (hl : entriesCost l ≤ 1048576) (hc : 1048576 < entriesCost l + entriesCost m) :
    Calls Try.prog 3 #[v, v2] w fun e w' => e = .returned (.bool true) ∧ Kept w w' := by
  unfold maxLen at hlen hlen2
  have hd1 : decide ((1048576 : Int) - (entriesCost l : Int) < 0) = false := by simp; omega
  obtain ⟨ao, cap, hfm⟩ := hv.form
  subst hfm
  obtain ⟨ap, caq, hfm⟩ := hv2.form
  subst hfm
  go_enter Try.func3, Try.ntmps3
  repeat (first | go_values | go_skip | go_guarded | go_step | go_upon)
  go_at_call 4
  refine (szEntries l _ _ _ hv (by omega) (by omega) (by omega) hf).mono ?_
  rintro e u1 ⟨rfl, k1⟩
  rw [leftOf_yes (by omega)]
  dsimp only
  repeat (first | go_values | go_skip | go_guarded | go_step | go_upon)
  go_at_call 4
  refine (szEntries m _ _ _ (hv2.kept k1) (by omega) (by omega) (by omega) hf2).mono ?_
  rintro e u2 ⟨rfl, k2⟩
  rw [leftOf_no (by omega)]
  dsimp only
  repeat (first | go_values | go_skip | go_guarded | go_step | go_upon)
  go_ret
  exact ⟨rfl, k1.trans k2⟩
theorem all (l : List EntryD) (v : Value) {w : World} (hv : EntriesAt w v l) (hf : EntriesFit l) (hlen : l.length ≤ maxLen) (m : List EntryD) (v2 : Value) (hv2 : EntriesAt w v2 m) (hf2 : EntriesFit m) (hlen2 : m.length ≤ maxLen) (w' : World) (_ : w' = w) :
    Calls Try.prog 3 #[v, v2] w fun e w' => e = .returned (.bool true) ∧ Kept w w' := by
  by_cases hl : entriesCost l ≤ 1048576
  · by_cases hc : entriesCost l + entriesCost m ≤ 1048576
    · have hm : entriesCost m ≤ 1048576 := by omega
      refine walk l m (missR l m) (dec (MissOk l m)) v v2 w hv hf hv2 hf2 hc hl hm ?_ (fun u v v2 h1 h2 => smiss l m v v2 u h1 h2 hl hm) (fun u v v2 h1 h2 => imiss l m v v2 u h1 h2 hl hm)
      have h1 := miss_len l m
      have h2 : l.length ≤ 1048576 := by unfold entriesCost at hl; omega
      unfold missR
      split
      · omega
      · simp
    · exact big2 l m v v2 w hv hf hv2 hf2 hlen hlen2 hl (by omega)
  · exact big1 l m v v2 w hv hf hv2 hf2 hlen (by omega)


set_option maxRecDepth 100000 in
theorem lifted (os : Os) (started : os.Started) (H : Type) (enc : TypeId × Value → H) :
    ReturnsInHanded {} Try.checked os 3 .any (Rows.fnExactMissingInSpec.pre6 enc Try.prog Try.f3 Rows.fnExactMissingInRow.domain false) (Rows.fnExactMissingInSpec.post enc Try.prog Try.f3 false true false false) := by
  refine returnsInHanded_of_change (C := Try.checked) own started (by kernel_rfl) Try.func3
    (ChangeSpec.witness6 (enc := enc) (C := Try.checked) false ⟨#[], #[.slice none 0 0, .slice none 0 0], []⟩ 8 (by kernel_rfl) (by kernel_rfl) (by kernel_rfl) (by kernel_rfl)) ?_
  intro W base args ds gs before hval0 hW hcnd _
  have hval : ∀ (j : Nat) t v, Try.f3.params[j]? = some t → args[j]? = some v → Value.okWide Try.prog W .any base t v := hval0
  have hW' := hW
  obtain ⟨p, q, hA0, hV, rfl, hfz, hnd⟩ := hW
  have hA : DataW.TrodAll enc Try.prog W 0 (fun _ => true) true Try.f3.params.toList args.toList ds p := hA0
  rw [Try.params3] at hA hval
  obtain ⟨v0, vs0, d0, ds0, p0, q0, hargs, rfl, rfl, h0, r0⟩ := trodAll_cons hA
  obtain ⟨v1, vs1, d1, ds1, p1, q1, rfl, rfl, rfl, h1, r1⟩ := trodAll_cons r0
  obtain ⟨rfl, rfl, rfl⟩ := trodAll_nil r1
  obtain rfl : args = #[v0, v1] := by cases args; simp_all
  obtain ⟨rfl, rfl⟩ := trodVars_none hV
  obtain ⟨l0, hv0, hq0, hl0⟩ := open_entries (hval 0 22 v0 rfl rfl) h0
  obtain ⟨l1, hv1, hq1, hl1⟩ := open_entries (hval 1 22 v1 rfl rfl) h1
  clear hA0 hval0
  simp only [List.append_nil] at hW'
  refine (all l0 v0 hv0 hq0 hl0 l1 v1 hv1 hq1 hl1 W rfl).mono fun e W' ⟨he, hg⟩ => ?_
  subst he
  exact ⟨_, rfl, post_of_kept (pa := _) (pv := []) hW' (fun _ _ _ => (trodAll_cons_mk (shut_bool Try.underlying4 _) trodAll_mk0)) (fun sp hsp => (trodAll_cons_mk (kept_trod (by kernel_rfl) (of_decide_eq_true (by kernel_rfl)) h0 hg (fun x hx => hW'.lt x (by simp [hx])) (fun x hx => hsp x (by simp [hx]))) (trodAll_cons_mk (kept_trod (by kernel_rfl) (of_decide_eq_true (by kernel_rfl)) h1 hg (fun x hx => hW'.lt x (by simp [hx])) (fun x hx => hsp x (by simp [hx]))) trodAll_mk0))) (fun _ _ => rfl) hg⟩

theorem over : Rows.fnExactMissingInRow.holds Try.pinned (OpenSpec.ofChange Rows.fnExactMissingInSpec) :=
  OpenClaim.holds_of_wide 3 Try.f3 rfl rfl rfl rfl rfl rfl rfl ⟨rfl, rfl, rfl, rfl, rfl⟩ rfl rfl rfl rfl rfl (by kernel_rfl) Try.func3 (by kernel_rfl)
    (of_decide_eq_true (by kernel_rfl)) (by unfold Func.isWrapper; first | (rw [if_pos (by decide +kernel)]; kernel_rfl) | (rw [if_neg (by decide +kernel)]; exact ⟨rfl, rfl⟩))
    (fun os started H enc _ => lifted os started H enc)

theorem proved : Rows.FnExactMissingInSaid :=
  over
#print axioms proved
end Go.Proofs.Ytgbgnmjgnfocmaa.fnExactMissingIn
