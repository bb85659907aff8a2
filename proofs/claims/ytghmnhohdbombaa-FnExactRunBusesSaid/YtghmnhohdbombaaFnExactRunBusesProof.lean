/-
  At every list of buses and row of floats the program's RunBuses answers what the specification's RunBuses answers, bit by bit; it writes into no argument, and its answer owns its memory.
-/
import Derived.Test.YtghmnhohdbombaaRows
import Derived.Test.YtghmnhohdbombaaSBus16
import Derived.Test.YtghmnhohdbombaaBusT16
import Derived.Test.YtghmnhohdbombaaBusE16
import Derived.Test.YtghmnhohdbombaaBusM16
import Derived.Test.YtghmnhohdbombaaQuiet
import Derived.ChangeMaps
namespace Go.Proofs.Ytghmnhohdbombaa.fnExactRunBuses
open Go.ChangeShapes Go.WideShapes Go.ChangeAt Go.RowKit
set_option linter.unusedVariables false

theorem own : ownKnob Try.prog.godebug = none := by kernel_rfl

set_option maxRecDepth 100000 in
set_option maxHeartbeats 16000000 in
theorem walk (l : List BusD) (ins R : List Nat) (r1 : Nat) (jb : Bool) (v x : Value) (w : World) (hv : BusAt w v l) (hx : FltAt w x ins) (hl : l.length ≤ 1048576) (hn : ins.length ≤ 1048576) (hR : R.length ≤ 1048576)
    (hS : ∀ (u : World) (v x : Value), BusAt u v l → FltAt u x ins → Calls Try.prog 32 #[v, x] u fun e u' => ∃ v', e = .returned (.tuple #[v', .float .f64 r1, .bool jb]) ∧ FltO u' u.heap.size u'.heap.size v' R ∧ Kept u u')
    (hI : ∀ (u : World) (v x : Value), BusAt u v l → FltAt u x ins → Calls Try.prog 34 #[v, x] u fun e u' => ∃ v', e = .returned (.tuple #[v', .float .f64 r1, .bool jb]) ∧ FltO u' u.heap.size u'.heap.size v' R ∧ Kept u u') :
    Calls Try.prog 8 #[v, x] w fun e w' => e = .returned (.bool true) ∧ Kept w w' := by
  have HS : Hid (∀ (u : World) (v x : Value), BusAt u v l → FltAt u x ins → Calls Try.prog 32 #[v, x] u fun e u' => ∃ v', e = .returned (.tuple #[v', .float .f64 r1, .bool jb]) ∧ FltO u' u.heap.size u'.heap.size v' R ∧ Kept u u') := hS
  have HI : Hid (∀ (u : World) (v x : Value), BusAt u v l → FltAt u x ins → Calls Try.prog 34 #[v, x] u fun e u' => ∃ v', e = .returned (.tuple #[v', .float .f64 r1, .bool jb]) ∧ FltO u' u.heap.size u'.heap.size v' R ∧ Kept u u') := hI
  clear hS hI
  have hd0 : decide ((1048576 : Int) < (ins.length : Int)) = false := by simp; omega
  have hdl : decide ((1048576 : Int) - (l.length : Int) < 0) = false := by simp; omega
  obtain ⟨ao, cap, hfm⟩ := row_nil hv
  subst hfm
  obtain ⟨aox, capx, hfm⟩ := row_nil hx
  subst hfm
  go_enter Try.func8, Try.ntmps8
  repeat (first | go_values | go_skip | go_guarded | go_step | go_upon)
  go_at_call 31
  refine (szBusS l _ _ _ hv (by omega) (by omega) (by omega)).mono ?_
  rintro e u1 ⟨rfl, k1⟩
  rw [leftOf_yes (by omega)]
  have K1 := k1
  clear k1
  dsimp only
  repeat (first | go_values | go_skip | go_guarded | go_step | go_upon)
  go_at_call 33
  refine (toBusS l _ _ (hv.kept K1) hl).mono ?_
  rintro e u2 ⟨v2, rfl, o2, k2⟩
  have K2 := K1.trans k2
  clear k2 K1 hdl hd0
  obtain ⟨ao2, cap2, hfm⟩ := o2.form
  subst hfm
  dsimp only
  repeat (first | go_values | go_skip | go_guarded | go_step | go_upon)
  go_at_call 17
  refine (toFltS ins _ _ (hx.kept K2) hn).mono ?_
  rintro e u3 ⟨v3, rfl, o3, k3⟩
  have K3 := K2.trans k3
  have o2 := o2.kept k3
  clear k3 K2
  obtain ⟨ao3, cap3, hfm⟩ := o3.form
  subst hfm
  dsimp only
  repeat (first | go_values | go_skip | go_guarded | go_step | go_upon)
  go_at_call 32
  refine (HS.out _ _ _ o2.at o3.at).mono ?_
  rintro e u4 ⟨v4, rfl, ow, k4⟩
  have K4 := K3.trans k4
  have s4 := k4.size
  have s40 := K4.size
  clear k4 K3 o2 o3
  obtain ⟨ao4, cap4, hfm⟩ := ow.form
  subst hfm
  obtain ⟨lo3, hlo3, ow⟩ : ∃ lo, lo = _ ∧ FltO u4 lo u4.heap.size _ R := ⟨_, rfl, ow⟩
  dsimp only
  repeat (first | go_values | go_skip | go_guarded | go_step | go_upon)
  go_at_call 33
  refine (toBusS l _ _ (hv.kept K4) hl).mono ?_
  rintro e u5 ⟨v5, rfl, ox, k5⟩
  have K5 := K4.trans k5
  have ow := ow.kept k5
  have s5 := k5.size
  clear k5 K4
  obtain ⟨ao5, cap5, hfm⟩ := ox.form
  subst hfm
  dsimp only
  repeat (first | go_values | go_skip | go_guarded | go_step | go_upon)
  go_at_call 17
  refine (toFltS ins _ _ (hx.kept K5) hn).mono ?_
  rintro e u6 ⟨v6, rfl, oi, k6⟩
  have K6 := K5.trans k6
  have ow := ow.kept k6
  have ox := ox.kept k6
  have s6 := k6.size
  clear k6 K5
  obtain ⟨ao6, cap6, hfm⟩ := oi.form
  subst hfm
  dsimp only
  repeat (first | go_values | go_skip | go_guarded | go_step | go_upon)
  go_at_call 34
  refine (HI.out _ _ _ ox.at oi.at).mono ?_
  rintro e u7 ⟨v7, rfl, og, k7⟩
  have K7 := K6.trans k7
  have ow := ow.kept k7
  have ox := ox.kept k7
  have oi := oi.kept k7
  have s7 := k7.size
  clear k7 K6
  obtain ⟨ao7, cap7, hfm⟩ := og.form
  subst hfm
  dsimp only
  repeat (first | go_values | go_skip | go_guarded | go_step | go_upon)
  go_at_call 18
  refine (eqFltS R _ _ _ og.at ow.at (by omega)).mono ?_
  rintro e u8 ⟨rfl, k8⟩
  have K8 := K7.trans k8
  have ow := ow.kept k8
  have ox := ox.kept k8
  have oi := oi.kept k8
  have og := og.kept k8
  have s8 := k8.size
  clear K7 k8
  dsimp only
  repeat (first | go_values | go_skip | go_guarded | go_step | go_upon)
  go_at_call 30
  refine (sameFloat r1 r1 rfl _).mono ?_
  rintro e u8' ⟨rfl, rfl⟩
  dsimp only
  repeat (first | go_values | go_skip | go_guarded | go_step | go_upon)
  go_at_call 33
  refine (toBusS l _ _ (hv.kept K8) hl).mono ?_
  rintro e u9 ⟨v9, rfl, o9, k9⟩
  have K9 := K8.trans k9
  have ow := ow.kept k9
  have ox := ox.kept k9
  have oi := oi.kept k9
  have og := og.kept k9
  have s9 := k9.size
  clear k9 K8
  obtain ⟨ao9, cap9, hfm⟩ := o9.form
  subst hfm
  dsimp only
  repeat (first | go_values | go_skip | go_guarded | go_step | go_upon)
  go_at_call 35
  refine (eqBusS l _ _ _ ox.at o9.at (by omega)).mono ?_
  rintro e u10 ⟨rfl, k10⟩
  have K10 := K9.trans k10
  have ow := ow.kept k10
  have ox := ox.kept k10
  have oi := oi.kept k10
  have og := og.kept k10
  have s10 := k10.size
  clear k10 K9 o9
  dsimp only
  repeat (first | go_values | go_skip | go_guarded | go_step | go_upon)
  go_at_call 17
  refine (toFltS ins _ _ (hx.kept K10) hn).mono ?_
  rintro e u11 ⟨v11, rfl, o11, k11⟩
  have K11 := K10.trans k11
  have ow := ow.kept k11
  have ox := ox.kept k11
  have oi := oi.kept k11
  have og := og.kept k11
  have s11 := k11.size
  clear k11 K10
  obtain ⟨ao11, cap11, hfm⟩ := o11.form
  subst hfm
  dsimp only
  repeat (first | go_values | go_skip | go_guarded | go_step | go_upon)
  go_at_call 18
  refine (eqFltS ins _ _ _ oi.at o11.at (by omega)).mono ?_
  rintro e u12 ⟨rfl, k12⟩
  have K12 := K11.trans k12
  have ow := ow.kept k12
  have ox := ox.kept k12
  have oi := oi.kept k12
  have og := og.kept k12
  have s12 := k12.size
  clear k12 K11 o11
  dsimp only
  repeat (first | go_values | go_skip | go_guarded | go_step | go_upon)
  go_at_call 36
  refine (markBusS l _ 1 u4.heap.size u5.heap.size _ ox (by omega)).mono ?_
  rintro e u13 ⟨rfl, -, b13⟩
  obtain ⟨q1, hq1⟩ : ∃ q, 1 + 7 * l.length = q := ⟨_, rfl⟩
  rw [hq1]
  have hbq : q1 ≤ 8000000 := by omega
  clear hq1
  have k13 := b13.inner ox
  have K13 : Kept w _ := But.onto K12 k13 (by omega)
  have ow := ow.but k13 (by omega)
  have oi := oi.but k13 (by omega)
  have og := og.but k13 (by omega)
  have s13 := k13.size
  clear k13 b13 K12 ox
  dsimp only
  repeat (first | go_values | go_skip | go_guarded | go_step | go_upon)
  go_at_call 20
  refine (markFltS ins _ q1 u5.heap.size u6.heap.size _ oi (by omega)).mono ?_
  rintro e u14 ⟨rfl, -, b14⟩
  obtain ⟨q2, hq2⟩ : ∃ q, q1 + ins.length = q := ⟨_, rfl⟩
  rw [hq2]
  have hdq1 : decide ((q2 : Int) < 0) = false := by simp
  clear hq2
  have k14 := b14.inner oi
  have K14 : Kept w _ := But.onto K13 k14 (by omega)
  have ow := ow.but k14 (by omega)
  have og := og.but k14 (by omega)
  have s14 := k14.size
  clear k14 b14 K13 oi
  dsimp only
  repeat (first | go_values | go_skip | go_guarded | go_step | go_upon)
  go_at_call 18
  refine (eqFltS R _ _ _ og.at ow.at (by omega)).mono ?_
  rintro e u15 ⟨rfl, k15⟩
  have K15 := K14.trans k15
  have ow := ow.kept k15
  have og := og.kept k15
  have s15 := k15.size
  clear K14 k15
  dsimp only
  repeat (first | go_values | go_skip | go_guarded | go_step | go_upon)
  go_at_call 30
  refine (sameFloat r1 r1 rfl _).mono ?_
  rintro e u15' ⟨rfl, rfl⟩
  dsimp only
  repeat (first | go_values | go_skip | go_guarded | go_step | go_upon)
  go_at_call 20
  refine (markFltS R _ 1 u6.heap.size u7.heap.size _ og (by omega)).mono ?_
  rintro e u17 ⟨rfl, o15, b17⟩
  obtain ⟨q3, hq3⟩ : ∃ q, 1 + R.length = q := ⟨_, rfl⟩
  rw [hq3]
  have HQ3 : Hid (1 + R.length = q3) := hq3
  have hdq3 : decide ((q3 : Int) < 0) = false := by simp
  clear hq3 hdq1
  have k17 := b17.inner og
  have K17 : Kept w _ := But.onto K15 k17 (by omega)
  have ow := ow.but k17 (by omega)
  have s17 := k17.size
  clear k17 b17 K15 og
  dsimp only
  repeat (first | go_values | go_skip | go_guarded | go_step | go_upon)
  go_at_call 21
  refine (heldFltS R.length _ 1 _ o15.at (by omega)).mono ?_
  rintro e u18 ⟨rfl, k18⟩
  rw [HQ3.out]
  have K18 := K17.trans k18
  have ow := ow.kept k18
  have o15 := o15.kept k18
  have s18 := k18.size
  clear K17 k18
  dsimp only
  repeat (first | go_values | go_skip | go_guarded | go_step | go_upon)
  go_at_call 33
  refine (toBusS l _ _ (hv.kept K18) hl).mono ?_
  rintro e u19 ⟨v19, rfl, o19, k19⟩
  have K19 := K18.trans k19
  have ow := ow.kept k19
  have o15 := o15.kept k19
  clear k19 K18
  obtain ⟨ao19, cap19, hfm⟩ := o19.form
  subst hfm
  dsimp only
  repeat (first | go_values | go_skip | go_guarded | go_step | go_upon)
  go_at_call 17
  refine (toFltS ins _ _ (hx.kept K19) hn).mono ?_
  rintro e u20 ⟨v20, rfl, o20, k20⟩
  have K20 := K19.trans k20
  have ow := ow.kept k20
  have o15 := o15.kept k20
  have o19 := o19.kept k20
  clear k20 K19
  obtain ⟨ao20, cap20, hfm⟩ := o20.form
  subst hfm
  dsimp only
  repeat (first | go_values | go_skip | go_guarded | go_step | go_upon)
  go_at_call 34
  refine (HI.out _ _ _ o19.at o20.at).mono ?_
  rintro e u21 ⟨v21, rfl, oh, k21⟩
  have K21 := K20.trans k21
  have ow := ow.kept k21
  have o15 := o15.kept k21
  clear k21 K20 o19 o20
  obtain ⟨ao21, cap21, hfm⟩ := oh.form
  subst hfm
  dsimp only
  repeat (first | go_values | go_skip | go_guarded | go_step | go_upon)
  go_at_call 18
  refine (eqFltS R _ _ _ oh.at ow.at (by omega)).mono ?_
  rintro e u22 ⟨rfl, k22⟩
  have K22 := K21.trans k22
  have o15 := o15.kept k22
  clear K21 k22
  dsimp only
  repeat (first | go_values | go_skip | go_guarded | go_step | go_upon)
  go_at_call 30
  refine (sameFloat r1 r1 rfl _).mono ?_
  rintro e u22' ⟨rfl, rfl⟩
  dsimp only
  repeat (first | go_values | go_skip | go_guarded | go_step | go_upon)
  go_at_call 21
  refine (heldFltS R.length _ 1 _ o15.at (by omega)).mono ?_
  rintro e u23 ⟨rfl, k23⟩
  rw [HQ3.out]
  have K23 := K22.trans k23
  dsimp only
  repeat (first | go_values | go_skip | go_guarded | go_step | go_upon)
  go_ret
  exact ⟨rfl, K23⟩

set_option maxRecDepth 100000 in
theorem big (l : List BusD) (ins : List Nat) (v x : Value) (w : World) (hv : BusAt w v l) (hx : FltAt w x ins) (hl : l.length ≤ maxLen) (hn : ins.length ≤ maxLen) (hb : 1048576 < l.length ∨ 1048576 < ins.length) :
    Calls Try.prog 8 #[v, x] w fun e w' => e = .returned (.bool true) ∧ Kept w w' := by
  unfold maxLen at hl hn
  obtain ⟨ao, cap, hfm⟩ := row_nil hv
  subst hfm
  obtain ⟨aox, capx, hfm⟩ := row_nil hx
  subst hfm
  by_cases h : 1048576 < ins.length
  · have hd0 : decide ((1048576 : Int) < (ins.length : Int)) = true := by simp; omega
    go_enter Try.func8, Try.ntmps8
    repeat (first | go_values | go_skip | go_guarded | go_step | go_upon)
    go_ret
    exact ⟨rfl, But.refl _ _ _⟩
  · have hd0 : decide ((1048576 : Int) < (ins.length : Int)) = false := by simp; omega
    go_enter Try.func8, Try.ntmps8
    repeat (first | go_values | go_skip | go_guarded | go_step | go_upon)
    go_at_call 31
    refine (szBusS l _ _ _ hv (by omega) (by omega) (by omega)).mono ?_
    rintro e u1 ⟨rfl, k1⟩
    rw [leftOf_no (by omega)]
    dsimp only
    repeat (first | go_values | go_skip | go_guarded | go_step | go_upon)
    go_ret
    exact ⟨rfl, k1⟩
theorem res (l : List BusD) (ins : List Nat) : ∃ R, BusRes l ins R ∧ R.1.length ≤ l.length := by
  by_cases h : goodBs l ∧ ins.length = l.length ∧ goodR ins = true
  · refine ⟨busR l ins, ⟨fun _ => rfl, fun h' => absurd h h'⟩, ?_⟩
    unfold busR
    split
    · simp [(busS_len l ins l.length (Nat.le_refl _)).2]
    · simp
  · exact ⟨([], 0, false), ⟨fun h' => absurd h' h, fun _ => rfl⟩, by simp⟩
theorem all (l : List BusD) (v : Value) {w : World} (hv : BusAt w v l) (hq : ∀ p ∈ l, BusOk p) (hl : l.length ≤ maxLen) (ins : List Nat) (x : Value) (hx : FltAt w x ins) (hw : ∀ p ∈ ins, p < 18446744073709551616) (hn : ins.length ≤ maxLen) (w' : World) (_ : w' = w) :
    Calls Try.prog 8 #[v, x] w fun e w' => e = .returned (.bool true) ∧ Kept w w' := by
  by_cases h : l.length ≤ 1048576 ∧ ins.length ≤ 1048576
  · obtain ⟨R, hR, hle⟩ := res l ins
    exact walk l ins R.1 R.2.1 R.2.2 v x w hv hx h.1 h.2 (by omega)
      (fun u v x h1 h2 => sbuses l ins R hR v x u h1 h2 hq hw h.1 h.2)
      (fun u v x h1 h2 => ibusesR l ins R hR v x u h1 h2 hq hw h.1 h.2)
  · exact big l ins v x w hv hx hl hn (by omega)


set_option maxRecDepth 100000 in
theorem lifted (os : Os) (started : os.Started) (H : Type) (enc : TypeId × Value → H) :
    ReturnsInHanded {} Try.checked os 8 .any (Rows.fnExactRunBusesSpec.pre6 enc Try.prog Try.f8 Rows.fnExactRunBusesRow.domain false) (Rows.fnExactRunBusesSpec.post enc Try.prog Try.f8 false true false false) := by
  refine returnsInHanded_of_change (C := Try.checked) own started (by kernel_rfl) Try.func8
    (ChangeSpec.witness6 (enc := enc) (C := Try.checked) false ⟨#[], #[.slice none 0 0, .slice none 0 0], []⟩ 8 (by kernel_rfl) (by kernel_rfl) (by kernel_rfl) (by kernel_rfl)) ?_
  intro W base args ds gs before hval0 hW hcnd _
  have hval : ∀ (j : Nat) t v, Try.f8.params[j]? = some t → args[j]? = some v → Value.okWide Try.prog W .any base t v := hval0
  have hW' := hW
  obtain ⟨p, q, hA0, hV, rfl, hfz, hnd⟩ := hW
  have hA : DataW.TrodAll enc Try.prog W 0 (fun _ => true) true Try.f8.params.toList args.toList ds p := hA0
  rw [Try.params8] at hA hval
  obtain ⟨v0, vs0, d0, ds0, p0, q0, hargs, rfl, rfl, h0, r0⟩ := trodAll_cons hA
  obtain ⟨v1, vs1, d1, ds1, p1, q1, rfl, rfl, rfl, h1, r1⟩ := trodAll_cons r0
  obtain ⟨rfl, rfl, rfl⟩ := trodAll_nil r1
  obtain rfl : args = #[v0, v1] := by cases args; simp_all
  obtain ⟨rfl, rfl⟩ := trodVars_none hV
  obtain ⟨l0, hv0, hq0, hl0⟩ := open_busS (hval 0 59 v0 rfl rfl) h0
  obtain ⟨l1, hv1, hq1, hl1⟩ := open_fltS (hval 1 28 v1 rfl rfl) h1
  clear hA0 hval0
  simp only [List.append_nil] at hW'
  refine (all l0 v0 hv0 hq0 hl0 l1 v1 hv1 hq1 hl1 W rfl).mono fun e W' ⟨he, hg⟩ => ?_
  subst he
  exact ⟨_, rfl, post_of_kept (pa := _) (pv := []) hW' (fun _ _ _ => (trodAll_cons_mk (shut_bool Try.underlying4 _) trodAll_mk0)) (fun sp hsp => (trodAll_cons_mk (kept_trod (by kernel_rfl) (of_decide_eq_true (by kernel_rfl)) h0 hg (fun x hx => hW'.lt x (by simp [hx])) (fun x hx => hsp x (by simp [hx]))) (trodAll_cons_mk (kept_trod (by kernel_rfl) (of_decide_eq_true (by kernel_rfl)) h1 hg (fun x hx => hW'.lt x (by simp [hx])) (fun x hx => hsp x (by simp [hx]))) trodAll_mk0))) (fun _ _ => rfl) hg⟩

theorem over : Rows.fnExactRunBusesRow.holds Try.pinned (OpenSpec.ofChange Rows.fnExactRunBusesSpec) :=
  OpenClaim.holds_of_wide 8 Try.f8 rfl rfl rfl rfl rfl rfl rfl ⟨rfl, rfl, rfl, rfl, rfl⟩ rfl rfl rfl rfl rfl (by kernel_rfl) Try.func8 (by kernel_rfl)
    (of_decide_eq_true (by kernel_rfl)) (by unfold Func.isWrapper; first | (rw [if_pos (by decide +kernel)]; kernel_rfl) | (rw [if_neg (by decide +kernel)]; exact ⟨rfl, rfl⟩))
    (fun os started H enc _ => lifted os started H enc)

theorem proved : Rows.FnExactRunBusesSaid :=
  over
#print axioms proved
end Go.Proofs.Ytghmnhohdbombaa.fnExactRunBuses
