/-
  At every list of bodies, every bounce, every number of rounds and every time the program's StepLine answers what the specification's StepLine answers, writes into no argument, and its answer is memory of its own.
-/
import Derived.Test.YthpjjpgahmkpdaaRows
import Derived.Test.YthpjjpgahmkpdaaStep10
import Derived.Test.YthpjjpgahmkpdaaTo
import Derived.Test.YthpjjpgahmkpdaaEq
import Derived.Test.YthpjjpgahmkpdaaMarks
import Derived.Test.YthpjjpgahmkpdaaOpen
import Derived.ChangeMaps
namespace Go.Proofs.Ythpjjpgahmkpdaa.fnExactStepLine
open Go.ChangeShapes Go.WideShapes Go.ChangeAt Go.RowKit
set_option linter.unusedVariables false

theorem own : ownKnob Try.prog.godebug = none := by kernel_rfl

set_option maxRecDepth 100000 in
set_option maxHeartbeats 8000000 in
theorem walk (l : List BodyD) (R : List BodyD) (bo ro t : Int) (jb : Bool) (v : Value) (w : World) (hv : BodyAt w v l) (hn : l.length ≤ 1048576) (hR : R.length ≤ 100000000)
    (hS : ∀ (u : World) (v : Value), BodyAt u v l → Calls Try.prog 34 #[v, .int .i64 bo, .int .i64 ro, .int .i64 t] u fun e u' => ∃ v', e = .returned (.tuple #[v', .bool jb]) ∧ BodyO u' u.heap.size u'.heap.size v' R ∧ Kept u u')
    (hI : ∀ (u : World) (v : Value), BodyAt u v l → Calls Try.prog 20 #[v, .int .i64 bo, .int .i64 ro, .int .i64 t] u fun e u' => ∃ v', e = .returned (.tuple #[v', .bool jb]) ∧ BodyO u' u.heap.size u'.heap.size v' R ∧ Kept u u') :
    Calls Try.prog 9 #[v, .int .i64 bo, .int .i64 ro, .int .i64 t] w fun e w' => e = .returned (.bool true) ∧ Kept w w' := by
  have hlen : l.length ≤ 1048576 := hn
  have hdl : decide ((1048576 : Int) - (l.length : Int) < 0) = false := by simp; omega
  obtain ⟨q, hq1⟩ : ∃ q, 1 + 4 * l.length = q := ⟨_, rfl⟩
  obtain ⟨q', hq2⟩ : ∃ q', 1 + 4 * R.length = q' := ⟨_, rfl⟩
  have hdq : decide ((q : Int) < 0) = false := by simp
  have hdq' : decide ((q' : Int) < 0) = false := by simp
  have HQ : Hid (1 + 4 * l.length = q) := hq1
  have HQ' : Hid (1 + 4 * R.length = q') := hq2
  clear hq1 hq2
  obtain ⟨ao, cap, hfm⟩ := row_nil hv
  subst hfm
  have HS : Hid _ := hS
  have HI : Hid _ := hI
  clear hS hI
  go_enter Try.func9, Try.ntmps9
  repeat (first | go_values | go_skip | go_guarded | go_step | go_upon)
  go_at_call 21
  refine (szBodyS l _ _ _ hv (by omega) (by omega) (by omega)).mono ?_
  rintro e u1 ⟨rfl, k1⟩
  rw [leftOf_yes (by omega)]
  dsimp only
  repeat (first | go_values | go_skip | go_guarded | go_step | go_upon)
  go_at_call 23
  refine (toBodyS l _ _ (hv.kept k1) hlen).mono ?_
  rintro e u2 ⟨v2, rfl, o2, k2⟩
  have K2 := k1.trans k2
  obtain ⟨ao2, cap2, hfm⟩ := o2.form
  subst hfm
  dsimp only
  repeat (first | go_values | go_skip | go_guarded | go_step | go_upon)
  go_at_call 34
  refine (HS.out _ _ o2.at).mono ?_
  rintro e u3 ⟨v3, rfl, o3, k3⟩
  have K3 := K2.trans k3
  clear o2
  obtain ⟨ao3, cap3, hfm⟩ := o3.form
  subst hfm
  dsimp only
  repeat (first | go_values | go_skip | go_guarded | go_step | go_upon)
  go_at_call 23
  refine (toBodyS l _ _ (hv.kept K3) hlen).mono ?_
  rintro e u4 ⟨v4, rfl, o4, k4⟩
  have K4 := K3.trans k4
  have o3 := o3.kept k4
  obtain ⟨ao4, cap4, hfm⟩ := o4.form
  subst hfm
  dsimp only
  repeat (first | go_values | go_skip | go_guarded | go_step | go_upon)
  go_at_call 20
  refine (HI.out _ _ o4.at).mono ?_
  rintro e u5 ⟨v5, rfl, o5, k5⟩
  have K5 := K4.trans k5
  have o3 := o3.kept k5
  have o4 := o4.kept k5
  have s3 := k3.size
  have s4 := k4.size
  have s5 := k5.size
  obtain ⟨ao5, cap5, hfm⟩ := o5.form
  subst hfm
  dsimp only
  repeat (first | go_values | go_skip | go_guarded | go_step | go_upon)
  go_at_call 25
  refine (eqBodyS R _ _ _ o5.at o3.at (by omega)).mono ?_
  rintro e u6 ⟨rfl, k6⟩
  have K6 := K5.trans k6
  have o3 := o3.kept k6
  have o4 := o4.kept k6
  have o5 := o5.kept k6
  have s6 := k6.size
  have HW : Hid (w.heap.size ≤ u3.heap.size) := K3.size
  have HW2 : Hid (w.heap.size ≤ u4.heap.size) := K4.size
  clear k1 k2 k3 k4 k5 k6 K2 K3 K4 K5
  dsimp only
  repeat (first | go_values | go_skip | go_guarded | go_step | go_upon)
  go_at_call 23
  refine (toBodyS l _ _ (hv.kept K6) hlen).mono ?_
  rintro e u7 ⟨v7, rfl, o7, k7⟩
  have K7 := K6.trans k7
  have o3 := o3.kept k7
  have o4 := o4.kept k7
  have o5 := o5.kept k7
  have s7 := k7.size
  obtain ⟨ao7, cap7, hfm⟩ := o7.form
  subst hfm
  dsimp only
  repeat (first | go_values | go_skip | go_guarded | go_step | go_upon)
  go_at_call 25
  refine (eqBodyS l _ _ _ o4.at o7.at (by omega)).mono ?_
  rintro e u8 ⟨rfl, k8⟩
  have K8 := K7.trans k8
  have o3 := o3.kept k8
  have o4 := o4.kept k8
  have o5 := o5.kept k8
  have s8 := k8.size
  clear o7 k7 k8 K6 K7
  dsimp only
  repeat (first | go_values | go_skip | go_guarded | go_step | go_upon)
  go_at_call 32
  refine (markBodyS l _ 1 u3.heap.size u4.heap.size _ o4 (by omega)).mono ?_
  rintro e u9 ⟨rfl, -, b9⟩
  rw [HQ.out]
  have k9 := b9.inner o4
  have K9 := K8.onto k9 HW.out
  have o3 := o3.but k9 (by omega)
  have o5 := o5.but k9 (by omega)
  have s9 := k9.size
  clear b9 k9 K8 o4
  dsimp only
  repeat (first | go_values | go_skip | go_guarded | go_step | go_upon)
  go_at_call 25
  refine (eqBodyS R _ _ _ o5.at o3.at (by omega)).mono ?_
  rintro e u10 ⟨rfl, k10⟩
  have K10 := K9.trans k10
  have o3 := o3.kept k10
  have o5 := o5.kept k10
  have s10 := k10.size
  clear k10 K9
  dsimp only
  repeat (first | go_values | go_skip | go_guarded | go_step | go_upon)
  go_at_call 32
  refine (markBodyS R _ 1 u4.heap.size u5.heap.size _ o5 (by omega)).mono ?_
  rintro e u11 ⟨rfl, o11, b11⟩
  rw [HQ'.out]
  have k11 := b11.inner o5
  have K11 := K10.onto k11 HW2.out
  have o3 := o3.but k11 (by omega)
  have s11 := k11.size
  clear b11 k11 K10 o5
  dsimp only
  repeat (first | go_values | go_skip | go_guarded | go_step | go_upon)
  go_at_call 33
  refine (heldBodyS R.length _ 1 _ o11.at (by omega)).mono ?_
  rintro e u12 ⟨rfl, k12⟩
  rw [HQ'.out]
  have K12 := K11.trans k12
  have o3 := o3.kept k12
  have o11 := o11.kept k12
  clear k12 K11
  dsimp only
  repeat (first | go_values | go_skip | go_guarded | go_step | go_upon)
  go_at_call 23
  refine (toBodyS l _ _ (hv.kept K12) hlen).mono ?_
  rintro e u13 ⟨v13, rfl, o13, k13⟩
  have K13 := K12.trans k13
  have o3 := o3.kept k13
  have o11 := o11.kept k13
  clear k13 K12
  obtain ⟨ao13, cap13, hfm⟩ := o13.form
  subst hfm
  dsimp only
  repeat (first | go_values | go_skip | go_guarded | go_step | go_upon)
  go_at_call 20
  refine (HI.out _ _ o13.at).mono ?_
  rintro e u14 ⟨v14, rfl, o14, k14⟩
  have K14 := K13.trans k14
  have o3 := o3.kept k14
  have o11 := o11.kept k14
  clear k14 K13 o13
  obtain ⟨ao14, cap14, hfm⟩ := o14.form
  subst hfm
  dsimp only
  repeat (first | go_values | go_skip | go_guarded | go_step | go_upon)
  go_at_call 25
  refine (eqBodyS R _ _ _ o14.at o3.at (by omega)).mono ?_
  rintro e u15 ⟨rfl, k15⟩
  have K15 := K14.trans k15
  have o11 := o11.kept k15
  clear k15 K14 o14 o3
  dsimp only
  repeat (first | go_values | go_skip | go_guarded | go_step | go_upon)
  go_at_call 33
  refine (heldBodyS R.length _ 1 _ o11.at (by omega)).mono ?_
  rintro e u16 ⟨rfl, k16⟩
  rw [HQ'.out]
  have K16 := K15.trans k16
  dsimp only
  repeat (first | go_values | go_skip | go_guarded | go_step | go_upon)
  go_ret
  exact ⟨rfl, K16⟩

set_option maxRecDepth 100000 in
set_option maxHeartbeats 1000000 in
theorem big (l : List BodyD) (bo ro t : Int) (v : Value) (w : World) (hv : BodyAt w v l) (hn : l.length ≤ 9223372036854775807) (hl : 1048576 < l.length) :
    Calls Try.prog 9 #[v, .int .i64 bo, .int .i64 ro, .int .i64 t] w fun e w' => e = .returned (.bool true) ∧ Kept w w' := by
  obtain ⟨ao, cap, hfm⟩ := row_nil hv
  subst hfm
  go_enter Try.func9, Try.ntmps9
  repeat (first | go_values | go_skip | go_guarded | go_step | go_upon)
  go_at_call 21
  refine (szBodyS l _ _ _ hv (by omega) (by omega) hn).mono ?_
  rintro e u1 ⟨rfl, k1⟩
  rw [leftOf_no (by omega)]
  dsimp only
  repeat (first | go_values | go_skip | go_guarded | go_step | go_upon)
  go_ret
  exact ⟨rfl, k1⟩

theorem all (l : List BodyD) (v : Value) {w : World} (hv : BodyAt w v l) (_ : ∀ p ∈ l, True) (hm : l.length ≤ maxLen) (bo ro t : Int) (w' : World) (_ : w' = w) :
    Calls Try.prog 9 #[v, .int .i64 bo, .int .i64 ro, .int .i64 t] w fun e w' => e = .returned (.bool true) ∧ Kept w w' := by
  have hm' : l.length ≤ 9223372036854775807 := by unfold maxLen at hm; omega
  by_cases hl : l.length ≤ 1048576
  · exact walk l (lst (stepA l bo ro t)) bo ro t (stepA l bo ro t).isSome v w hv hl (stepA_len l bo ro t) (fun u v h => sstep l bo ro t v u h hl) (fun u v h => istep l bo ro t v u h hl)
  · exact big l bo ro t v w hv hm' (by omega)


set_option maxRecDepth 100000 in
theorem lifted (os : Os) (started : os.Started) (H : Type) (enc : TypeId × Value → H) :
    ReturnsInHanded {} Try.checked os 9 .any (Rows.fnExactStepLineSpec.pre6 enc Try.prog Try.f9 Rows.fnExactStepLineRow.domain false) (Rows.fnExactStepLineSpec.post enc Try.prog Try.f9 false true false false) := by
  refine returnsInHanded_of_change (C := Try.checked) own started (by kernel_rfl) Try.func9
    (ChangeSpec.witness6 (enc := enc) (C := Try.checked) false ⟨#[], #[.slice none 0 0, .int .i64 0, .int .i64 0, .int .i64 0], []⟩ 8 (by kernel_rfl) (by kernel_rfl) (by kernel_rfl) (by kernel_rfl)) ?_
  intro W base args ds gs before hval0 hW hcnd _
  have hval : ∀ (j : Nat) t v, Try.f9.params[j]? = some t → args[j]? = some v → Value.okWide Try.prog W .any base t v := hval0
  have hW' := hW
  obtain ⟨p, q, hA0, hV, rfl, hfz, hnd⟩ := hW
  have hA : DataW.TrodAll enc Try.prog W 0 (fun _ => true) true Try.f9.params.toList args.toList ds p := hA0
  rw [Try.params9] at hA hval
  obtain ⟨v0, vs0, d0, ds0, p0, q0, hargs, rfl, rfl, h0, r0⟩ := trodAll_cons hA
  obtain ⟨v1, vs1, d1, ds1, p1, q1, rfl, rfl, rfl, h1, r1⟩ := trodAll_cons r0
  obtain ⟨v2, vs2, d2, ds2, p2, q2, rfl, rfl, rfl, h2, r2⟩ := trodAll_cons r1
  obtain ⟨v3, vs3, d3, ds3, p3, q3, rfl, rfl, rfl, h3, r3⟩ := trodAll_cons r2
  obtain ⟨rfl, rfl, rfl⟩ := trodAll_nil r3
  obtain rfl : args = #[v0, v1, v2, v3] := by cases args; simp_all
  obtain ⟨rfl, rfl⟩ := trodVars_none hV
  obtain ⟨l0, hv0, hq0, hl0⟩ := open_bodyS (hval 0 42 v0 rfl rfl) h0
  obtain ⟨a1, rfl, rfl, rfl, w1⟩ := open_int Try.underlying3 (hval 1 3 v1 rfl rfl) h1
  obtain ⟨a2, rfl, rfl, rfl, w2⟩ := open_int Try.underlying3 (hval 2 3 v2 rfl rfl) h2
  obtain ⟨a3, rfl, rfl, rfl, w3⟩ := open_int Try.underlying3 (hval 3 3 v3 rfl rfl) h3
  clear hA0 hval0
  simp only [List.append_nil] at hW'
  refine (all l0 v0 hv0 hq0 hl0 a1 a2 a3 W rfl).mono fun e W' ⟨he, hg⟩ => ?_
  subst he
  exact ⟨_, rfl, post_of_kept (pa := _) (pv := []) hW' (fun _ _ _ => (trodAll_cons_mk (shut_bool Try.underlying4 _) trodAll_mk0)) (fun sp hsp => (trodAll_cons_mk (kept_trod (by kernel_rfl) (of_decide_eq_true (by kernel_rfl)) h0 hg (fun x hx => hW'.lt x (by simp [hx])) (fun x hx => hsp x (by simp [hx]))) (trodAll_cons_mk (shut_int Try.underlying3 w1) (trodAll_cons_mk (shut_int Try.underlying3 w2) (trodAll_cons_mk (shut_int Try.underlying3 w3) trodAll_mk0))))) (fun _ _ => rfl) hg⟩

theorem over : Rows.fnExactStepLineRow.holds Try.pinned (OpenSpec.ofChange Rows.fnExactStepLineSpec) :=
  OpenClaim.holds_of_wide 9 Try.f9 rfl rfl rfl rfl rfl rfl rfl ⟨rfl, rfl, rfl, rfl, rfl⟩ rfl rfl rfl rfl rfl (by kernel_rfl) Try.func9 (by kernel_rfl)
    (of_decide_eq_true (by kernel_rfl)) (by unfold Func.isWrapper; first | (rw [if_pos (by decide +kernel)]; kernel_rfl) | (rw [if_neg (by decide +kernel)]; exact ⟨rfl, rfl⟩))
    (fun os started H enc _ => lifted os started H enc)

theorem proved : Rows.FnExactStepLineSaid :=
  over
#print axioms proved
end Go.Proofs.Ythpjjpgahmkpdaa.fnExactStepLine
