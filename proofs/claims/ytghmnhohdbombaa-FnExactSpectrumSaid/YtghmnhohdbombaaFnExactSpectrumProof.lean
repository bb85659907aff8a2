/-
  At every row of floats the program's Spectrum answers what the specification's Spectrum answers, bit by bit; it writes into no argument, and its answer owns its memory.
-/
import Derived.Test.YtghmnhohdbombaaRows
import Derived.Test.YtghmnhohdbombaaSSpec16
import Derived.Test.YtghmnhohdbombaaQuiet
import Derived.ChangeMaps
namespace Go.Proofs.Ytghmnhohdbombaa.fnExactSpectrum
open Go.ChangeShapes Go.WideShapes Go.ChangeAt Go.RowKit
set_option linter.unusedVariables false

theorem own : ownKnob Try.prog.godebug = none := by kernel_rfl

set_option maxRecDepth 100000 in
set_option maxHeartbeats 16000000 in
theorem walk (l : List Nat) (R : List TnD) (jb : Bool) (v : Value) (w : World) (hv : FltAt w v l) (hl : l.length ≤ 1048576) (hR : R.length ≤ 1048576)
    (hS : ∀ (u : World) (v : Value), FltAt u v l → Calls Try.prog 22 #[v] u fun e u' => ∃ v', e = .returned (.tuple #[v', .bool jb]) ∧ TnO u' u.heap.size u'.heap.size v' R ∧ Kept u u')
    (hI : ∀ (u : World) (v : Value), FltAt u v l → Calls Try.prog 23 #[v] u fun e u' => ∃ v', e = .returned (.tuple #[v', .bool jb]) ∧ TnO u' u.heap.size u'.heap.size v' R ∧ Kept u u') :
    Calls Try.prog 6 #[v] w fun e w' => e = .returned (.bool true) ∧ Kept w w' := by
  have HS : Hid (∀ (u : World) (v : Value), FltAt u v l → Calls Try.prog 22 #[v] u fun e u' => ∃ v', e = .returned (.tuple #[v', .bool jb]) ∧ TnO u' u.heap.size u'.heap.size v' R ∧ Kept u u') := hS
  have HI : Hid (∀ (u : World) (v : Value), FltAt u v l → Calls Try.prog 23 #[v] u fun e u' => ∃ v', e = .returned (.tuple #[v', .bool jb]) ∧ TnO u' u.heap.size u'.heap.size v' R ∧ Kept u u') := hI
  clear hS hI
  have hd0 : decide ((1048576 : Int) < (l.length : Int)) = false := by simp; omega
  obtain ⟨ao, cap, hfm⟩ := row_nil hv
  subst hfm
  go_enter Try.func6, Try.ntmps6
  repeat (first | go_values | go_skip | go_guarded | go_step | go_upon)
  go_at_call 17
  refine (toFltS l _ _ hv hl).mono ?_
  rintro e u3 ⟨v3, rfl, o3, k3⟩
  have K3 := k3
  clear k3 hd0
  obtain ⟨ao3, cap3, hfm⟩ := o3.form
  subst hfm
  dsimp only
  repeat (first | go_values | go_skip | go_guarded | go_step | go_upon)
  go_at_call 22
  refine (HS.out _ _ o3.at).mono ?_
  rintro e u4 ⟨v4, rfl, ow, k4⟩
  have K4 := K3.trans k4
  have s4 := k4.size
  have s40 := K4.size
  clear k4 K3 o3
  obtain ⟨ao4, cap4, hfm⟩ := ow.form
  subst hfm
  obtain ⟨lo3, hlo3, ow⟩ : ∃ lo, lo = _ ∧ TnO u4 lo u4.heap.size _ R := ⟨_, rfl, ow⟩
  dsimp only
  repeat (first | go_values | go_skip | go_guarded | go_step | go_upon)
  go_at_call 17
  refine (toFltS l _ _ (hv.kept K4) hl).mono ?_
  rintro e u6 ⟨v6, rfl, oi, k6⟩
  have K6 := K4.trans k6
  have ow := ow.kept k6
  have s6 := k6.size
  clear k6 K4
  obtain ⟨ao6, cap6, hfm⟩ := oi.form
  subst hfm
  dsimp only
  repeat (first | go_values | go_skip | go_guarded | go_step | go_upon)
  go_at_call 23
  refine (HI.out _ _ oi.at).mono ?_
  rintro e u7 ⟨v7, rfl, og, k7⟩
  have K7 := K6.trans k7
  have ow := ow.kept k7
  have oi := oi.kept k7
  have s7 := k7.size
  clear k7 K6
  obtain ⟨ao7, cap7, hfm⟩ := og.form
  subst hfm
  dsimp only
  repeat (first | go_values | go_skip | go_guarded | go_step | go_upon)
  go_at_call 24
  refine (eqTnS R _ _ _ og.at ow.at (by omega)).mono ?_
  rintro e u8 ⟨rfl, k8⟩
  have K8 := K7.trans k8
  have ow := ow.kept k8
  have oi := oi.kept k8
  have og := og.kept k8
  have s8 := k8.size
  clear K7 k8
  dsimp only
  repeat (first | go_values | go_skip | go_guarded | go_step | go_upon)
  go_at_call 17
  refine (toFltS l _ _ (hv.kept K8) hl).mono ?_
  rintro e u11 ⟨v11, rfl, o11, k11⟩
  have K11 := K8.trans k11
  have ow := ow.kept k11
  have oi := oi.kept k11
  have og := og.kept k11
  have s11 := k11.size
  clear k11 K8
  obtain ⟨ao11, cap11, hfm⟩ := o11.form
  subst hfm
  dsimp only
  repeat (first | go_values | go_skip | go_guarded | go_step | go_upon)
  go_at_call 18
  refine (eqFltS l _ _ _ oi.at o11.at (by omega)).mono ?_
  rintro e u12 ⟨rfl, k12⟩
  have K12 := K11.trans k12
  have ow := ow.kept k12
  have oi := oi.kept k12
  have og := og.kept k12
  have s12 := k12.size
  clear k12 K11 o11
  dsimp only
  repeat (first | go_values | go_skip | go_guarded | go_step | go_upon)
  go_at_call 20
  refine (markFltS l _ 1 u4.heap.size u6.heap.size _ oi (by omega)).mono ?_
  rintro e u14 ⟨rfl, -, b14⟩
  obtain ⟨q2, hq2⟩ : ∃ q, 1 + l.length = q := ⟨_, rfl⟩
  rw [hq2]
  have hdq1 : decide ((q2 : Int) < 0) = false := by simp
  clear hq2
  have k14 := b14.inner oi
  have K14 : Kept w _ := But.onto K12 k14 (by omega)
  have ow := ow.but k14 (by omega)
  have og := og.but k14 (by omega)
  have s14 := k14.size
  clear k14 b14 K12 oi
  dsimp only
  repeat (first | go_values | go_skip | go_guarded | go_step | go_upon)
  go_at_call 24
  refine (eqTnS R _ _ _ og.at ow.at (by omega)).mono ?_
  rintro e u15 ⟨rfl, k15⟩
  have K15 := K14.trans k15
  have ow := ow.kept k15
  have og := og.kept k15
  have s15 := k15.size
  clear K14 k15
  dsimp only
  repeat (first | go_values | go_skip | go_guarded | go_step | go_upon)
  go_at_call 25
  refine (markTnS R _ 1 u6.heap.size u7.heap.size _ og (by omega)).mono ?_
  rintro e u17 ⟨rfl, o15, b17⟩
  obtain ⟨q3, hq3⟩ : ∃ q, 1 + 2 * R.length = q := ⟨_, rfl⟩
  rw [hq3]
  have HQ3 : Hid (1 + 2 * R.length = q3) := hq3
  have hdq3 : decide ((q3 : Int) < 0) = false := by simp
  clear hq3 hdq1
  have k17 := b17.inner og
  have K17 : Kept w _ := But.onto K15 k17 (by omega)
  have ow := ow.but k17 (by omega)
  have s17 := k17.size
  clear k17 b17 K15 og
  dsimp only
  repeat (first | go_values | go_skip | go_guarded | go_step | go_upon)
  go_at_call 26
  refine (heldTnS R.length _ 1 _ o15.at (by omega)).mono ?_
  rintro e u18 ⟨rfl, k18⟩
  rw [HQ3.out]
  have K18 := K17.trans k18
  have ow := ow.kept k18
  have o15 := o15.kept k18
  have s18 := k18.size
  clear K17 k18
  dsimp only
  repeat (first | go_values | go_skip | go_guarded | go_step | go_upon)
  go_at_call 17
  refine (toFltS l _ _ (hv.kept K18) hl).mono ?_
  rintro e u20 ⟨v20, rfl, o20, k20⟩
  have K20 := K18.trans k20
  have ow := ow.kept k20
  have o15 := o15.kept k20
  clear k20 K18
  obtain ⟨ao20, cap20, hfm⟩ := o20.form
  subst hfm
  dsimp only
  repeat (first | go_values | go_skip | go_guarded | go_step | go_upon)
  go_at_call 23
  refine (HI.out _ _ o20.at).mono ?_
  rintro e u21 ⟨v21, rfl, oh, k21⟩
  have K21 := K20.trans k21
  have ow := ow.kept k21
  have o15 := o15.kept k21
  clear k21 K20 o20
  obtain ⟨ao21, cap21, hfm⟩ := oh.form
  subst hfm
  dsimp only
  repeat (first | go_values | go_skip | go_guarded | go_step | go_upon)
  go_at_call 24
  refine (eqTnS R _ _ _ oh.at ow.at (by omega)).mono ?_
  rintro e u22 ⟨rfl, k22⟩
  have K22 := K21.trans k22
  have o15 := o15.kept k22
  clear K21 k22
  dsimp only
  repeat (first | go_values | go_skip | go_guarded | go_step | go_upon)
  go_at_call 26
  refine (heldTnS R.length _ 1 _ o15.at (by omega)).mono ?_
  rintro e u23 ⟨rfl, k23⟩
  rw [HQ3.out]
  have K23 := K22.trans k23
  dsimp only
  repeat (first | go_values | go_skip | go_guarded | go_step | go_upon)
  go_ret
  exact ⟨rfl, K23⟩

set_option maxRecDepth 100000 in
theorem big (l : List Nat) (v : Value) (w : World) (hv : FltAt w v l) (hl : l.length ≤ maxLen) (hb : 1048576 < l.length) :
    Calls Try.prog 6 #[v] w fun e w' => e = .returned (.bool true) ∧ Kept w w' := by
  unfold maxLen at hl
  obtain ⟨ao, cap, hfm⟩ := row_nil hv
  subst hfm
  have hd0 : decide ((1048576 : Int) < (l.length : Int)) = true := by simp; omega
  go_enter Try.func6, Try.ntmps6
  repeat (first | go_values | go_skip | go_guarded | go_step | go_upon)
  go_ret
  exact ⟨rfl, But.refl _ _ _⟩
theorem res (l : List Nat) : ∃ R, SpecRes l R ∧ R.1.length ≤ 8 := by
  by_cases h : SpecP l
  · exact ⟨(specL l 8, true), ⟨fun _ => rfl, fun h' => absurd h h'⟩, by simp [specL_len]⟩
  · exact ⟨([], false), ⟨fun h' => absurd h' h, fun _ => rfl⟩, by simp⟩
theorem all (l : List Nat) (v : Value) {w : World} (hv : FltAt w v l) (hw : ∀ p ∈ l, p < 18446744073709551616) (hl : l.length ≤ maxLen) (w' : World) (_ : w' = w) :
    Calls Try.prog 6 #[v] w fun e w' => e = .returned (.bool true) ∧ Kept w w' := by
  by_cases h : l.length ≤ 1048576
  · obtain ⟨R, hR, hle⟩ := res l
    exact walk l R.1 R.2 v w hv h (by omega)
      (fun u v h1 => sspec l R hR v u h1 hw h)
      (fun u v h1 => ispec l R hR v u h1 hw h)
  · exact big l v w hv hl (by omega)


set_option maxRecDepth 100000 in
theorem lifted (os : Os) (started : os.Started) (H : Type) (enc : TypeId × Value → H) :
    ReturnsInHanded {} Try.checked os 6 .any (Rows.fnExactSpectrumSpec.pre6 enc Try.prog Try.f6 Rows.fnExactSpectrumRow.domain false) (Rows.fnExactSpectrumSpec.post enc Try.prog Try.f6 false true false false) := by
  refine returnsInHanded_of_change (C := Try.checked) own started (by kernel_rfl) Try.func6
    (ChangeSpec.witness6 (enc := enc) (C := Try.checked) false ⟨#[], #[.slice none 0 0], []⟩ 8 (by kernel_rfl) (by kernel_rfl) (by kernel_rfl) (by kernel_rfl)) ?_
  intro W base args ds gs before hval0 hW hcnd _
  have hval : ∀ (j : Nat) t v, Try.f6.params[j]? = some t → args[j]? = some v → Value.okWide Try.prog W .any base t v := hval0
  have hW' := hW
  obtain ⟨p, q, hA0, hV, rfl, hfz, hnd⟩ := hW
  have hA : DataW.TrodAll enc Try.prog W 0 (fun _ => true) true Try.f6.params.toList args.toList ds p := hA0
  rw [Try.params6] at hA hval
  obtain ⟨v0, vs0, d0, ds0, p0, q0, hargs, rfl, rfl, h0, r0⟩ := trodAll_cons hA
  obtain ⟨rfl, rfl, rfl⟩ := trodAll_nil r0
  obtain rfl : args = #[v0] := by cases args; simp_all
  obtain ⟨rfl, rfl⟩ := trodVars_none hV
  obtain ⟨l0, hv0, hq0, hl0⟩ := open_fltS (hval 0 28 v0 rfl rfl) h0
  clear hA0 hval0
  simp only [List.append_nil] at hW'
  refine (all l0 v0 hv0 hq0 hl0 W rfl).mono fun e W' ⟨he, hg⟩ => ?_
  subst he
  exact ⟨_, rfl, post_of_kept (pa := _) (pv := []) hW' (fun _ _ _ => (trodAll_cons_mk (shut_bool Try.underlying4 _) trodAll_mk0)) (fun sp hsp => (trodAll_cons_mk (kept_trod (by kernel_rfl) (of_decide_eq_true (by kernel_rfl)) h0 hg (fun x hx => hW'.lt x (by simp [hx])) (fun x hx => hsp x (by simp [hx]))) trodAll_mk0)) (fun _ _ => rfl) hg⟩

theorem over : Rows.fnExactSpectrumRow.holds Try.pinned (OpenSpec.ofChange Rows.fnExactSpectrumSpec) :=
  OpenClaim.holds_of_wide 6 Try.f6 rfl rfl rfl rfl rfl rfl rfl ⟨rfl, rfl, rfl, rfl, rfl⟩ rfl rfl rfl rfl rfl (by kernel_rfl) Try.func6 (by kernel_rfl)
    (of_decide_eq_true (by kernel_rfl)) (by unfold Func.isWrapper; first | (rw [if_pos (by decide +kernel)]; kernel_rfl) | (rw [if_neg (by decide +kernel)]; exact ⟨rfl, rfl⟩))
    (fun os started H enc _ => lifted os started H enc)

theorem proved : Rows.FnExactSpectrumSaid :=
  over
#print axioms proved
end Go.Proofs.Ytghmnhohdbombaa.fnExactSpectrum
