/-
  At every clip, every frame and every number of steps the program's MarksCrossed answers what the specification's MarksCrossed answers, writes into no argument and keeps nothing of one; its answer owns its memory.
-/
import Derived.Test.YtpnplfngglfpoaaRows
import Derived.Test.YtpnplfngglfpoaaCrossI11
import Derived.Test.YtpnplfngglfpoaaCrossS11
import Derived.Test.YtpnplfngglfpoaaClipF
import Derived.Test.YtpnplfngglfpoaaClipP
import Derived.Test.YtpnplfngglfpoaaClipM11
import Derived.Test.YtpnplfngglfpoaaTo
import Derived.Test.YtpnplfngglfpoaaEq
import Derived.Test.YtpnplfngglfpoaaMarks
import Derived.Test.YtpnplfngglfpoaaOpen
import Derived.ChangeMaps
namespace Go.Proofs.Ytpnplfngglfpoaa.fnExactMarksCrossed
open Go.ChangeShapes Go.WideShapes Go.ChangeAt Go.RowKit
set_option linter.unusedVariables false

theorem own : ownKnob Try.prog.godebug = none := by kernel_rfl

set_option maxRecDepth 100000 in
set_option maxHeartbeats 8000000 in
theorem walk (c : ClipD) (R : List TxtD) (fr st : Int) (z : Int) (jb : Bool) (v : Value) (w : World) (hv : ClipAt w v c) (hf : ClipFit c) (hl : clipCost c ≤ 1048576) (hR : R.length ≤ 100000000)
    (hS : ∀ (u : World) (v : Value), ClipAt u v c → Calls Try.prog 40 #[v, .int .i64 fr, .int .i64 st] u fun e u' => ∃ v', e = .returned (.tuple #[v', .int .i64 z, .bool jb]) ∧ TxtO u' u.heap.size u'.heap.size v' R ∧ Kept u u')
    (hI : ∀ (u : World) (v : Value), ClipAt u v c → Calls Try.prog 41 #[v, .int .i64 fr, .int .i64 st] u fun e u' => ∃ v', e = .returned (.tuple #[v', .int .i64 z, .bool jb]) ∧ TxtO u' u.heap.size u'.heap.size v' R ∧ Kept u u') :
    Calls Try.prog 10 #[v, .int .i64 fr, .int .i64 st] w fun e w' => e = .returned (.bool true) ∧ Kept w w' := by
  have hmk := clipMk_le hl
  obtain ⟨qa, hHQ⟩ : ∃ q : Nat, 1 + clipMk c = q := ⟨_, rfl⟩
  have HQ : Hid (1 + clipMk c = qa) := hHQ
  have bHQ : qa ≤ 200000000 := by omega
  have dHQ : decide ((qa : Int) < 0) = false := by simp
  clear hHQ
  obtain ⟨qd, hHQ'⟩ : ∃ q : Nat, 1 + R.length = q := ⟨_, rfl⟩
  have HQ' : Hid (1 + R.length = qd) := hHQ'
  have bHQ' : qd ≤ 200000000 := by omega
  have dHQ' : decide ((qd : Int) < 0) = false := by simp
  clear hHQ'
  have hdl : decide ((1048576 : Int) - (clipCost c : Int) < 0) = false := by simp; omega
  obtain ⟨sa1, p1, sa2, p2, hfm⟩ := hv.form
  subst hfm
  have HS : Hid _ := hS
  have HI : Hid _ := hI
  clear hS hI
  go_enter Try.func10, Try.ntmps10
  repeat (first | go_values | go_skip | go_guarded | go_step | go_upon)
  go_at_call 16
  refine (szClip c _ _ _ (hv.kept ((But.refl _ _ _).alloc _)) (by omega) (by omega) hf).mono ?_
  rintro e u1 ⟨rfl, k1⟩
  rw [leftOf_yes (by omega)]
  have K1 : Kept w u1 := ((But.refl _ _ _).alloc _).trans k1
  have La := (Loc.new w [.int .i64 c.1, .slice sa1 c.2.1.length p1, .slice sa2 c.2.2.length p2] 38).kept k1
  have s1 := La.lt
  have a0 := La.cell 0 rfl
  have a1 := La.cell 1 rfl
  have a2 := La.cell 2 rfl
  have al := La.lt
  dsimp only
  repeat (first | go_values | go_skip | go_guarded | go_step | go_upon)
  go_at_call 18
  refine (toClip c _ _ (hv.kept K1) hl).mono ?_
  rintro e u2 ⟨v2, rfl, o2, k2⟩
  have K2 := K1.trans k2
  have La := La.kept k2
  have s2 := k2.size
  clear a0 a1 a2 al
  obtain ⟨aq2, cq2, ar2, cr2, hfm⟩ := o2.form
  subst hfm
  dsimp only
  repeat (first | go_values | go_skip | go_guarded | go_step | go_upon)
  go_at_call 40
  refine (HS.out _ _ o2.at).mono ?_
  rintro e u3 ⟨v3, rfl, ow, k3⟩
  have K3 := K2.trans k3
  have La := La.kept k3
  have s3 := k3.size
  have a0 := La.cell 0 rfl
  have a1 := La.cell 1 rfl
  have a2 := La.cell 2 rfl
  have al := La.lt
  clear o2
  obtain ⟨ao3, cap3, hfm⟩ := ow.form
  subst hfm
  dsimp only
  repeat (first | go_values | go_skip | go_guarded | go_step | go_upon)
  go_at_call 18
  refine (toClip c _ _ (hv.kept K3) hl).mono ?_
  rintro e u4 ⟨v4, rfl, ox, k4⟩
  have K4 := K3.trans k4
  have La := La.kept k4
  have ow := ow.kept k4
  have s4 := k4.size
  clear a0 a1 a2 al
  obtain ⟨aq4, cq4, ar4, cr4, hfm⟩ := ox.form
  subst hfm
  dsimp only
  repeat (first | go_values | go_skip | go_guarded | go_step | go_upon)
  go_at_call 41
  refine (HI.out _ _ (ox.at.kept ((But.refl _ _ u4).alloc _))).mono ?_
  rintro e u5 ⟨v5, rfl, og, k5⟩
  have j5 : Kept u4 u5 := ((But.refl _ _ u4).alloc _).trans k5
  have K5 := K4.trans j5
  have La := La.kept j5
  have Lx := (Loc.new u4 [.int .i64 c.1, .slice aq4 c.2.1.length cq4, .slice ar4 c.2.2.length cr4] 44).kept k5
  have ox := ox.kept j5
  have ow := ow.kept j5
  have s5 := k5.size
  simp only [World.size_alloc] at s5 og
  obtain ⟨ao5, cap5, hfm⟩ := og.form
  subst hfm
  dsimp only
  repeat (first | go_values | go_skip | go_guarded | go_step | go_upon)
  go_at_call 42
  refine (eqTxtS R _ _ _ og.at ow.at (by omega)).mono ?_
  rintro e u6 ⟨rfl, k6⟩
  have K6 := K5.trans k6
  have La := La.kept k6
  have Lx := Lx.kept k6
  have ox := ox.kept k6
  have ow := ow.kept k6
  have og := og.kept k6
  have s6 := k6.size
  have a0 := La.cell 0 rfl
  have a1 := La.cell 1 rfl
  have a2 := La.cell 2 rfl
  have al := La.lt
  have b0 := Lx.cell 0 rfl
  have b1 := Lx.cell 1 rfl
  have b2 := Lx.cell 2 rfl
  have bl := Lx.lt
  clear k1 k2 k3 k4 k5 k6 j5 K1 K2 K3 K4 K5
  dsimp only
  repeat (first | go_values | go_skip | go_guarded | go_step | go_upon)
  go_region_held3 (fun w' => w'.cell? ⟨w.heap.size, 0, none⟩ = some (.int .i64 c.1) ∧ w'.cell? ⟨w.heap.size, 1, none⟩ = some (.slice sa1 c.2.1.length p1) ∧ w'.cell? ⟨w.heap.size, 2, none⟩ = some (.slice sa2 c.2.2.length p2) ∧ w'.cell? ⟨u4.heap.size, 0, none⟩ = some (.int .i64 c.1) ∧ w'.cell? ⟨u4.heap.size, 1, none⟩ = some (.slice aq4 c.2.1.length cq4) ∧ w'.cell? ⟨u4.heap.size, 2, none⟩ = some (.slice ar4 c.2.2.length cr4)) (simp [go_sem, *])
    (first | (go_at_call 18; refine (toClip c _ _ (hv.kept K6.drew) hl).mono ?_; rintro e u7 ⟨v7, rfl, o7, k7⟩; have j7 : Kept u6 u7 := ((But.refl _ _ u6).drew).trans k7; obtain ⟨aq7, cq7, ar7, cr7, hfm⟩ := o7.form; subst hfm; have a0 := Kept.cell k7 a0; have a1 := Kept.cell k7 a1; have a2 := Kept.cell k7 a2; have b0 := Kept.cell k7 b0; have b1 := Kept.cell k7 b1; have b2 := Kept.cell k7 b2)
           | (go_at_call 20; refine (eqClip c _ _ _ (ox.at.kept j7) o7.at hl).mono ?_; rintro e u8 ⟨rfl, k8⟩; have a0 := Kept.cell k8 a0; have a1 := Kept.cell k8 a1; have a2 := Kept.cell k8 a2; have b0 := Kept.cell k8 b0; have b1 := Kept.cell k8 b1; have b2 := Kept.cell k8 b2))
  all_goals
    have j8 : Kept u6 u8 := j7.trans k8
    have K8 := K6.trans j8
    have La := La.kept j8
    have Lx := Lx.kept j8
    have ox := ox.kept j8
    have ow := ow.kept j8
    have og := og.kept j8
    have s8 := j8.size
    clear j7 j8 k7 k8 o7 a0 a1 a2 al b0 b1 b2 bl K6
    have b0 := Lx.cell 0 rfl
    have b1 := Lx.cell 1 rfl
    have b2 := Lx.cell 2 rfl
    have bl := Lx.lt
    repeat (first | go_values | go_skip | go_guarded | go_step | go_upon)
    go_at_call 33
    refine (markClip c _ 1 u3.heap.size u4.heap.size _ ox hl (by omega) (by omega)).mono ?_
    rintro e u9 ⟨rfl, k9⟩
    rw [HQ.out]
    have K9 := K8.onto k9 (by omega)
    have La := La.but k9 (by omega)
    have ow := ow.but k9 (by omega)
    have og := og.but k9 (by omega)
    have s9 := k9.size
    clear k9 K8 ox Lx b0 b1 b2 bl
    dsimp only
    repeat (first | go_values | go_skip | go_guarded | go_step | go_upon)
    go_at_call 42
    refine (eqTxtS R _ _ _ og.at ow.at (by omega)).mono ?_
    rintro e u10 ⟨rfl, k10⟩
    have K10 := K9.trans k10
    have La := La.kept k10
    have ow := ow.kept k10
    have og := og.kept k10
    have s10 := k10.size
    clear k10 K9
    dsimp only
    repeat (first | go_values | go_skip | go_guarded | go_step | go_upon)
    go_at_call 43
    refine (markTxtS R _ 1 (u4.heap.size + 1) u5.heap.size _ og (by omega)).mono ?_
    rintro e u11 ⟨rfl, o11, b11⟩
    rw [HQ'.out]
    have k11 := b11.inner og
    have K11 := K10.onto k11 (by omega)
    have La := La.but k11 (by omega)
    have ow := ow.but k11 (by omega)
    have s11 := k11.size
    clear b11 k11 K10 og
    dsimp only
    repeat (first | go_values | go_skip | go_guarded | go_step | go_upon)
    go_at_call 44
    refine (heldTxtS R.length _ 1 _ o11.at (by omega)).mono ?_
    rintro e u12 ⟨rfl, k12⟩
    rw [HQ'.out]
    have K12 := K11.trans k12
    have La := La.kept k12
    have ow := ow.kept k12
    have o11 := o11.kept k12
    clear k12 K11
    have a0 := La.cell 0 rfl
    have a1 := La.cell 1 rfl
    have a2 := La.cell 2 rfl
    have al := La.lt
    dsimp only
    repeat (first | go_values | go_skip | go_guarded | go_step | go_upon)
    go_at_call 18
    refine (toClip c _ _ (hv.kept K12) hl).mono ?_
    rintro e u13 ⟨v13, rfl, o13, k13⟩
    have K13 := K12.trans k13
    have ow := ow.kept k13
    have o11 := o11.kept k13
    clear k13 K12 La
    clear a0 a1 a2 al
    obtain ⟨aq13, cq13, ar13, cr13, hfm⟩ := o13.form
    subst hfm
    dsimp only
    repeat (first | go_values | go_skip | go_guarded | go_step | go_upon)
    go_at_call 41
    refine (HI.out _ _ o13.at).mono ?_
    rintro e u14 ⟨v14, rfl, oh, k14⟩
    have K14 := K13.trans k14
    have ow := ow.kept k14
    have o11 := o11.kept k14
    clear k14 K13 o13
    obtain ⟨ao14, cap14, hfm⟩ := oh.form
    subst hfm
    dsimp only
    repeat (first | go_values | go_skip | go_guarded | go_step | go_upon)
    go_at_call 42
    refine (eqTxtS R _ _ _ oh.at ow.at (by omega)).mono ?_
    rintro e u15 ⟨rfl, k15⟩
    have K15 := K14.trans k15
    have o11 := o11.kept k15
    clear k15 K14 oh ow
    dsimp only
    repeat (first | go_values | go_skip | go_guarded | go_step | go_upon)
    go_at_call 44
    refine (heldTxtS R.length _ 1 _ o11.at (by omega)).mono ?_
    rintro e u16 ⟨rfl, k16⟩
    rw [HQ'.out]
    have K16 := K15.trans k16
    dsimp only
    repeat (first | go_values | go_skip | go_guarded | go_step | go_upon)
    go_ret
    exact ⟨rfl, K16⟩

set_option maxRecDepth 100000 in
theorem big (c : ClipD) (fr st : Int) (v : Value) (w : World) (hv : ClipAt w v c) (hf : ClipFit c) (hl : 1048576 < clipCost c) :
    Calls Try.prog 10 #[v, .int .i64 fr, .int .i64 st] w fun e w' => e = .returned (.bool true) ∧ Kept w w' := by
  obtain ⟨sa1, p1, sa2, p2, hfm⟩ := hv.form
  subst hfm
  go_enter Try.func10, Try.ntmps10
  repeat (first | go_values | go_skip | go_guarded | go_step | go_upon)
  go_at_call 16
  refine (szClip c _ _ _ (hv.kept (by repeat (first | with_reducible exact But.refl _ _ _ | with_reducible apply But.alloc))) (by omega) (by omega) hf).mono ?_
  rintro e u1 ⟨rfl, k1⟩
  rw [leftOf_no (by omega)]
  dsimp only
  repeat (first | go_values | go_skip | go_guarded | go_step | go_upon)
  go_ret
  refine ⟨rfl, But.trans ?_ k1⟩
  repeat (first | with_reducible exact But.refl _ _ _ | with_reducible apply But.alloc)

theorem all (c : ClipD) (v : Value) {w : World} (hv : ClipAt w v c) (hf : ClipFit c) (fr st : Int) (w' : World) (_ : w' = w) :
    Calls Try.prog 10 #[v, .int .i64 fr, .int .i64 st] w fun e w' => e = .returned (.bool true) ∧ Kept w w' := by
  by_cases hl : clipCost c ≤ 1048576
  · exact walk c (crossA c fr st).1 fr st (crossA c fr st).2.1 (crossA c fr st).2.2 v w hv hf hl (by have := crossA_len c fr st; omega) (fun u v h => scross c fr st v u h hl) (fun u v h => icross c fr st v u h hl)
  · exact big c fr st v w hv hf (by omega)


set_option maxRecDepth 100000 in
theorem lifted (os : Os) (started : os.Started) (H : Type) (enc : TypeId × Value → H) :
    ReturnsInHanded {} Try.checked os 10 .any (Rows.fnExactMarksCrossedSpec.pre6 enc Try.prog Try.f10 Rows.fnExactMarksCrossedRow.domain false) (Rows.fnExactMarksCrossedSpec.post enc Try.prog Try.f10 false true false false) := by
  refine returnsInHanded_of_change (C := Try.checked) own started (by kernel_rfl) Try.func10
    (ChangeSpec.witness6 (enc := enc) (C := Try.checked) false ⟨#[], #[.agg #[.int .i64 0, .slice none 0 0, .slice none 0 0], .int .i64 0, .int .i64 0], []⟩ 8 (by kernel_rfl) (by kernel_rfl) (by kernel_rfl) (by kernel_rfl)) ?_
  intro W base args ds gs before hval0 hW hcnd _
  have hval : ∀ (j : Nat) t v, Try.f10.params[j]? = some t → args[j]? = some v → Value.okWide Try.prog W .any base t v := hval0
  have hW' := hW
  obtain ⟨p, q, hA0, hV, rfl, hfz, hnd⟩ := hW
  have hA : DataW.TrodAll enc Try.prog W 0 (fun _ => true) true Try.f10.params.toList args.toList ds p := hA0
  rw [Try.params10] at hA hval
  obtain ⟨v0, vs0, d0, ds0, p0, q0, hargs, rfl, rfl, h0, r0⟩ := trodAll_cons hA
  obtain ⟨v1, vs1, d1, ds1, p1, q1, rfl, rfl, rfl, h1, r1⟩ := trodAll_cons r0
  obtain ⟨v2, vs2, d2, ds2, p2, q2, rfl, rfl, rfl, h2, r2⟩ := trodAll_cons r1
  obtain ⟨rfl, rfl, rfl⟩ := trodAll_nil r2
  obtain rfl : args = #[v0, v1, v2] := by cases args; simp_all
  obtain ⟨rfl, rfl⟩ := trodVars_none hV
  obtain ⟨c0, hv0, hl0⟩ := open_clip (hval 0 38 v0 rfl rfl) h0
  obtain ⟨a1, rfl, rfl, rfl, w1⟩ := open_int Try.underlying3 (hval 1 3 v1 rfl rfl) h1
  obtain ⟨a2, rfl, rfl, rfl, w2⟩ := open_int Try.underlying3 (hval 2 3 v2 rfl rfl) h2
  clear hA0 hval0
  simp only [List.append_nil] at hW'
  refine (all c0 v0 hv0 hl0 a1 a2 W rfl).mono fun e W' ⟨he, hg⟩ => ?_
  subst he
  exact ⟨_, rfl, post_of_kept (pa := _) (pv := []) hW' (fun _ _ _ => (trodAll_cons_mk (shut_bool Try.underlying4 _) trodAll_mk0)) (fun sp hsp => (trodAll_cons_mk (kept_trod (by kernel_rfl) (of_decide_eq_true (by kernel_rfl)) h0 hg (fun x hx => hW'.lt x (by simp [hx])) (fun x hx => hsp x (by simp [hx]))) (trodAll_cons_mk (shut_int Try.underlying3 w1) (trodAll_cons_mk (shut_int Try.underlying3 w2) trodAll_mk0)))) (fun _ _ => rfl) hg⟩

theorem over : Rows.fnExactMarksCrossedRow.holds Try.pinned (OpenSpec.ofChange Rows.fnExactMarksCrossedSpec) :=
  OpenClaim.holds_of_wide 10 Try.f10 rfl rfl rfl rfl rfl rfl rfl ⟨rfl, rfl, rfl, rfl, rfl⟩ rfl rfl rfl rfl rfl (by kernel_rfl) Try.func10 (by kernel_rfl)
    (of_decide_eq_true (by kernel_rfl)) (by unfold Func.isWrapper; first | (rw [if_pos (by decide +kernel)]; kernel_rfl) | (rw [if_neg (by decide +kernel)]; exact ⟨rfl, rfl⟩))
    (fun os started H enc _ => lifted os started H enc)

theorem proved : Rows.FnExactMarksCrossedSaid :=
  over
#print axioms proved
end Go.Proofs.Ytpnplfngglfpoaa.fnExactMarksCrossed
