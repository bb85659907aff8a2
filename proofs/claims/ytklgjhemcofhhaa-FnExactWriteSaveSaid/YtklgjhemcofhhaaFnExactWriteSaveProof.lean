/-
  At every version and list of values the program's WriteSave answers what the specification's WriteSave answers, writes into no argument and keeps nothing of one; its answer owns its memory.
-/
import Derived.Test.YtklgjhemcofhhaaRows
import Derived.Test.YtklgjhemcofhhaaValF
import Derived.Test.YtklgjhemcofhhaaValO
import Derived.Test.YtklgjhemcofhhaaValM
import Derived.Test.YtklgjhemcofhhaaBytM
import Derived.Test.YtklgjhemcofhhaaSWrite22
import Derived.Test.YtklgjhemcofhhaaIWrite22
import Derived.ChangeMaps
namespace Go.Proofs.Ytklgjhemcofhhaa.fnExactWriteSave
open Go.ChangeShapes Go.WideShapes Go.ChangeAt Go.RowKit
set_option linter.unusedVariables false

theorem own : ownKnob Try.prog.godebug = none := by kernel_rfl

set_option maxRecDepth 100000 in
set_option maxHeartbeats 8000000 in
theorem walk (x : Int) (l : List ValD) (R : List BytD) (jb : Bool) (v : Value) (w : World) (hv : ValAt w v l) (hs9 : ∀ p ∈ l, p.1.size ≤ 9223372036854775807 ∧ p.2.2.size ≤ 9223372036854775807) (hl : valCost l ≤ 1048576) (hR : R.length ≤ 100000000)
    (hS : ∀ (u : World) (v : Value), ValAt u v l → Calls Try.prog 11 #[.int .i64 x, v] u fun e u' => ∃ v', e = .returned (.tuple #[v', .bool jb]) ∧ BytO u' u.heap.size u'.heap.size v' R ∧ Kept u u')
    (hI : ∀ (u : World) (v : Value), ValAt u v l → Calls Try.prog 12 #[.int .i64 x, v] u fun e u' => ∃ v', e = .returned (.tuple #[v', .bool jb]) ∧ BytO u' u.heap.size u'.heap.size v' R ∧ Kept u u') :
    Calls Try.prog 4 #[.int .i64 x, v] w fun e w' => e = .returned (.bool true) ∧ Kept w w' := by
  have hn : l.length ≤ 1048576 := by unfold valCost at hl; omega
  have hd1 : decide ((1048576 : Int) - (valCost l : Int) < 0) = false := by simp; omega
  obtain ⟨qa, hHA⟩ : ∃ q : Nat, 1 + 3 * l.length = q := ⟨_, rfl⟩
  have HA : Hid (1 + 3 * l.length = qa) := hHA
  have bHA : qa ≤ 200000000 := by omega
  have dHA : decide ((qa : Int) < 0) = false := by simp
  clear hHA
  obtain ⟨qd, hHD⟩ : ∃ q : Nat, 1 + R.length = q := ⟨_, rfl⟩
  have HD : Hid (1 + R.length = qd) := hHD
  have bHD : qd ≤ 200000000 := by omega
  have dHD : decide ((qd : Int) < 0) = false := by simp
  clear hHD
  obtain ⟨ao, cap, hfm⟩ := row_nil hv
  subst hfm
  have HS : Hid _ := hS
  have HI : Hid _ := hI
  clear hS hI
  go_enter Try.func4, Try.ntmps4
  repeat (first | go_values | go_skip | go_guarded | go_step | go_upon)
  go_at_call 6
  refine (szValS l _ _ _ hv (by omega) (by omega) (by omega) hs9).mono ?_
  rintro e u1 ⟨rfl, k1⟩
  rw [leftOf_yes (by omega)]
  have K1 := k1
  have s1 := k1.size
  clear k1
  dsimp only
  repeat (first | go_values | go_skip | go_guarded | go_step | go_upon)
  go_at_call 8
  refine (toValS l _ _ (hv.kept K1) hn).mono ?_
  rintro e u2 ⟨v2, rfl, t1, k2⟩
  have K2 := K1.trans k2
  have s2 := k2.size
  clear k2 K1
  obtain ⟨ao2, cap2, hfm⟩ := t1.form
  subst hfm
  dsimp only
  repeat (first | go_values | go_skip | go_guarded | go_step | go_upon)
  go_at_call 11
  refine (HS.out _ _ t1.at).mono ?_
  rintro e u3 ⟨v3, rfl, ow, k3⟩
  have K3 := K2.trans k3
  have t1 := t1.kept k3
  have s3 := k3.size
  clear k3 K2
  obtain ⟨ao3, cap3, hfm⟩ := ow.form
  subst hfm
  clear t1
  dsimp only
  repeat (first | go_values | go_skip | go_guarded | go_step | go_upon)
  go_at_call 8
  refine (toValS l _ _ (hv.kept K3) hn).mono ?_
  rintro e u4 ⟨v4, rfl, x1, k4⟩
  have K4 := K3.trans k4
  have ow := ow.kept k4
  have s4 := k4.size
  clear k4 K3
  obtain ⟨ao4, cap4, hfm⟩ := x1.form
  subst hfm
  dsimp only
  repeat (first | go_values | go_skip | go_guarded | go_step | go_upon)
  go_at_call 12
  refine (HI.out _ _ x1.at).mono ?_
  rintro e u5 ⟨v5, rfl, og, k5⟩
  have K5 := K4.trans k5
  have ow := ow.kept k5
  have x1 := x1.kept k5
  have s5 := k5.size
  clear k5 K4
  obtain ⟨ao5, cap5, hfm⟩ := og.form
  subst hfm
  dsimp only
  repeat (first | go_values | go_skip | go_guarded | go_step | go_upon)
  go_at_call 13
  refine (eqBytS R _ _ _ og.at ow.at (by omega)).mono ?_
  rintro e u6 ⟨rfl, k6⟩
  have K6 := K5.trans k6
  have ow := ow.kept k6
  have x1 := x1.kept k6
  have og := og.kept k6
  have s6 := k6.size
  clear k6 K5
  dsimp only
  repeat (first | go_values | go_skip | go_guarded | go_step | go_upon)
  go_at_call 8
  refine (toValS l _ _ (hv.kept K6) hn).mono ?_
  rintro e u7 ⟨v7, rfl, y1, k7⟩
  have K7 := K6.trans k7
  have ow := ow.kept k7
  have x1 := x1.kept k7
  have og := og.kept k7
  have s7 := k7.size
  clear k7 K6
  obtain ⟨ao7, cap7, hfm⟩ := y1.form
  subst hfm
  dsimp only
  repeat (first | go_values | go_skip | go_guarded | go_step | go_upon)
  go_at_call 10
  refine (eqValS l _ _ _ x1.at y1.at (by omega)).mono ?_
  rintro e u8 ⟨rfl, k8⟩
  have K8 := K7.trans k8
  have ow := ow.kept k8
  have x1 := x1.kept k8
  have og := og.kept k8
  have y1 := y1.kept k8
  have s8 := k8.size
  clear k8 K7
  clear y1
  dsimp only
  repeat (first | go_values | go_skip | go_guarded | go_step | go_upon)
  go_at_call 14
  refine (markValS l _ 1 u3.heap.size u4.heap.size _ x1 (by omega)).mono ?_
  rintro e u9 ⟨rfl, -, b9⟩
  rw [HA.out]
  have k9 := b9.inner x1
  have K9 := K8.onto k9 (by omega)
  have ow := ow.but k9 (by omega)
  have og := og.but k9 (by omega)
  have s9 := k9.size
  clear b9 k9 K8 x1
  dsimp only
  repeat (first | go_values | go_skip | go_guarded | go_step | go_upon)
  go_at_call 13
  refine (eqBytS R _ _ _ og.at ow.at (by omega)).mono ?_
  rintro e u10 ⟨rfl, k10⟩
  have K10 := K9.trans k10
  have ow := ow.kept k10
  have og := og.kept k10
  have s10 := k10.size
  clear k10 K9
  dsimp only
  repeat (first | go_values | go_skip | go_guarded | go_step | go_upon)
  go_at_call 15
  refine (markBytS R _ 1 u4.heap.size u5.heap.size _ og (by omega)).mono ?_
  rintro e u11 ⟨rfl, og2, b11⟩
  rw [HD.out]
  have k11 := b11.inner og
  have K11 := K10.onto k11 (by omega)
  have ow := ow.but k11 (by omega)
  have s11 := k11.size
  clear b11 k11 K10 og
  dsimp only
  repeat (first | go_values | go_skip | go_guarded | go_step | go_upon)
  go_at_call 16
  refine (heldBytS R.length _ 1 _ og2.at (by omega)).mono ?_
  rintro e u12 ⟨rfl, k12⟩
  rw [HD.out]
  have K12 := K11.trans k12
  have ow := ow.kept k12
  have og2 := og2.kept k12
  have s12 := k12.size
  clear k12 K11
  dsimp only
  repeat (first | go_values | go_skip | go_guarded | go_step | go_upon)
  go_at_call 8
  refine (toValS l _ _ (hv.kept K12) hn).mono ?_
  rintro e u13 ⟨v13, rfl, z1, k13⟩
  have K13 := K12.trans k13
  have ow := ow.kept k13
  have og2 := og2.kept k13
  have s13 := k13.size
  clear k13 K12
  obtain ⟨ao13, cap13, hfm⟩ := z1.form
  subst hfm
  dsimp only
  repeat (first | go_values | go_skip | go_guarded | go_step | go_upon)
  go_at_call 12
  refine (HI.out _ _ z1.at).mono ?_
  rintro e u14 ⟨v14, rfl, oh, k14⟩
  have K14 := K13.trans k14
  have ow := ow.kept k14
  have og2 := og2.kept k14
  have z1 := z1.kept k14
  have s14 := k14.size
  clear k14 K13
  obtain ⟨ao14, cap14, hfm⟩ := oh.form
  subst hfm
  clear z1
  dsimp only
  repeat (first | go_values | go_skip | go_guarded | go_step | go_upon)
  go_at_call 13
  refine (eqBytS R _ _ _ oh.at ow.at (by omega)).mono ?_
  rintro e u15 ⟨rfl, k15⟩
  have K15 := K14.trans k15
  have ow := ow.kept k15
  have og2 := og2.kept k15
  have oh := oh.kept k15
  have s15 := k15.size
  clear k15 K14
  clear oh ow
  dsimp only
  repeat (first | go_values | go_skip | go_guarded | go_step | go_upon)
  go_at_call 16
  refine (heldBytS R.length _ 1 _ og2.at (by omega)).mono ?_
  rintro e u16 ⟨rfl, k16⟩
  rw [HD.out]
  have K16 := K15.trans k16
  have og2 := og2.kept k16
  have s16 := k16.size
  clear k16 K15
  dsimp only
  repeat (first | go_values | go_skip | go_guarded | go_step | go_upon)
  go_ret
  exact ⟨rfl, K16⟩
set_option maxRecDepth 100000 in
set_option maxHeartbeats 8000000 in
theorem big (x : Int) (l : List ValD) (v : Value) (w : World) (hv : ValAt w v l) (hs9 : ∀ p ∈ l, p.1.size ≤ 9223372036854775807 ∧ p.2.2.size ≤ 9223372036854775807) (hlen : l.length ≤ maxLen) (hc : 1048576 < valCost l) :
    Calls Try.prog 4 #[.int .i64 x, v] w fun e w' => e = .returned (.bool true) ∧ Kept w w' := by
  unfold maxLen at hlen
  obtain ⟨ao, cap, hfm⟩ := row_nil hv
  subst hfm
  go_enter Try.func4, Try.ntmps4
  repeat (first | go_values | go_skip | go_guarded | go_step | go_upon)
  go_at_call 6
  refine (szValS l _ _ _ hv (by omega) (by omega) (by omega) hs9).mono ?_
  rintro e u1 ⟨rfl, k1⟩
  rw [leftOf_no (by omega)]
  dsimp only
  repeat (first | go_values | go_skip | go_guarded | go_step | go_upon)
  go_ret
  exact ⟨rfl, k1⟩
theorem size_of {l : List ValD} (h : valCost l ≤ 1048576) : l.length ≤ 1048576 ∧ ∀ d ∈ l, d.1.size ≤ 1048576 ∧ d.2.2.size ≤ 1048576 := by
  refine ⟨by unfold valCost at h; omega, fun d hd => ?_⟩
  obtain ⟨j, hj⟩ := List.mem_iff_getElem?.1 hd
  have := valSum_le hj
  unfold valCost at h
  unfold valW at this
  omega
theorem saveR_len (x : Int) (l : List ValD) : (saveR x l).length ≤ 100000000 := by
  unfold saveR
  by_cases h : (1 ≤ x ∧ x ≤ 250) ∧ ValsP l
  · rw [if_pos h]
    have := save_len (v := x) h.2
    omega
  · rw [if_neg h]
    simp
theorem all (x : Int) (l : List ValD) (v : Value) {w : World} (hv : ValAt w v l) (hq : ∀ p ∈ l, p.1.size ≤ maxLen ∧ p.2.2.size ≤ maxLen) (hlen : l.length ≤ maxLen) (w' : World) (_ : w' = w) :
    Calls Try.prog 4 #[.int .i64 x, v] w fun e w' => e = .returned (.bool true) ∧ Kept w w' := by
  have hs9 : ∀ p ∈ l, p.1.size ≤ 9223372036854775807 ∧ p.2.2.size ≤ 9223372036854775807 := fun p hp => by have := hq p hp; unfold maxLen at this; omega
  by_cases hc : valCost l ≤ 1048576
  · have hz := size_of hc
    exact walk x l (saveR x l) (decide ((1 ≤ x ∧ x ≤ 250) ∧ ValsP l)) v w hv hs9 hc (saveR_len x l) (fun u v h => swrite x l v u h hz.1 hz.2) (fun u v h => iwrite x l v u h hz.1 hz.2)
  · exact big x l v w hv hs9 hlen (by omega)


set_option maxRecDepth 100000 in
theorem lifted (os : Os) (started : os.Started) (H : Type) (enc : TypeId × Value → H) :
    ReturnsInHanded {} Try.checked os 4 .any (Rows.fnExactWriteSaveSpec.pre6 enc Try.prog Try.f4 Rows.fnExactWriteSaveRow.domain false) (Rows.fnExactWriteSaveSpec.post enc Try.prog Try.f4 false true false false) := by
  refine returnsInHanded_of_change (C := Try.checked) own started (by kernel_rfl) Try.func4
    (ChangeSpec.witness6 (enc := enc) (C := Try.checked) false ⟨#[], #[.int .i64 0, .slice none 0 0], []⟩ 8 (by kernel_rfl) (by kernel_rfl) (by kernel_rfl) (by kernel_rfl)) ?_
  intro W base args ds gs before hval0 hW hcnd _
  have hval : ∀ (j : Nat) t v, Try.f4.params[j]? = some t → args[j]? = some v → Value.okWide Try.prog W .any base t v := hval0
  have hW' := hW
  obtain ⟨p, q, hA0, hV, rfl, hfz, hnd⟩ := hW
  have hA : DataW.TrodAll enc Try.prog W 0 (fun _ => true) true Try.f4.params.toList args.toList ds p := hA0
  rw [Try.params4] at hA hval
  obtain ⟨v0, vs0, d0, ds0, p0, q0, hargs, rfl, rfl, h0, r0⟩ := trodAll_cons hA
  obtain ⟨v1, vs1, d1, ds1, p1, q1, rfl, rfl, rfl, h1, r1⟩ := trodAll_cons r0
  obtain ⟨rfl, rfl, rfl⟩ := trodAll_nil r1
  obtain rfl : args = #[v0, v1] := by cases args; simp_all
  obtain ⟨rfl, rfl⟩ := trodVars_none hV
  obtain ⟨a0, rfl, rfl, rfl, w0⟩ := open_int Try.underlying3 (hval 0 3 v0 rfl rfl) h0
  obtain ⟨l1, hv1, hq1, hl1⟩ := open_valS (hval 1 22 v1 rfl rfl) h1
  clear hA0 hval0
  simp only [List.append_nil] at hW'
  refine (all a0 l1 v1 hv1 hq1 hl1 W rfl).mono fun e W' ⟨he, hg⟩ => ?_
  subst he
  exact ⟨_, rfl, post_of_kept (pa := _) (pv := []) hW' (fun _ _ _ => (trodAll_cons_mk (shut_bool Try.underlying4 _) trodAll_mk0)) (fun sp hsp => (trodAll_cons_mk (shut_int Try.underlying3 w0) (trodAll_cons_mk (kept_trod (by kernel_rfl) (of_decide_eq_true (by kernel_rfl)) h1 hg (fun x hx => hW'.lt x (by simp [hx])) (fun x hx => hsp x (by simp [hx]))) trodAll_mk0))) (fun _ _ => rfl) hg⟩

theorem over : Rows.fnExactWriteSaveRow.holds Try.pinned (OpenSpec.ofChange Rows.fnExactWriteSaveSpec) :=
  OpenClaim.holds_of_wide 4 Try.f4 rfl rfl rfl rfl rfl rfl rfl ⟨rfl, rfl, rfl, rfl, rfl⟩ rfl rfl rfl rfl rfl (by kernel_rfl) Try.func4 (by kernel_rfl)
    (of_decide_eq_true (by kernel_rfl)) (by unfold Func.isWrapper; first | (rw [if_pos (by decide +kernel)]; kernel_rfl) | (rw [if_neg (by decide +kernel)]; exact ⟨rfl, rfl⟩))
    (fun os started H enc _ => lifted os started H enc)

theorem proved : Rows.FnExactWriteSaveSaid :=
  over
#print axioms proved
end Go.Proofs.Ytklgjhemcofhhaa.fnExactWriteSave
