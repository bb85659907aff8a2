/-
  At every list of placed ones, number and way the program's NextFocus answers what the specification's NextFocus answers, and writes into no argument.
-/
import Derived.Test.YtaofilinejanjaaRows
import Derived.Test.YtaofilinejanjaaPlacedT
import Derived.Test.YtaofilinejanjaaPlacedO
import Derived.Test.YtaofilinejanjaaFocS18
import Derived.Test.YtaofilinejanjaaFocJ18
import Derived.ChangeMaps
namespace Go.Proofs.Ytaofilinejanjaa.fnExactNextFocus
open Go.ChangeShapes Go.WideShapes Go.ChangeAt Go.RowKit
set_option linter.unusedVariables false

theorem own : ownKnob Try.prog.godebug = none := by kernel_rfl

set_option maxRecDepth 100000 in
set_option maxHeartbeats 8000000 in
theorem walk (l : List PlacedD) (at1 way : Int) (R : Int) (jb : Bool) (v : Value) (w : World) (hv : PlacedAt w v l) (hl : l.length ≤ 1048576)
    (hS : ∀ (u : World) (v : Value), PlacedAt u v l → Calls Try.prog 28 #[v, .int .i64 at1, .int .i64 way] u fun e u' => e = .returned (.tuple #[.int .i64 R, .bool jb]) ∧ Kept u u')
    (hI : ∀ (u : World) (v : Value), PlacedAt u v l → Calls Try.prog 30 #[v, .int .i64 at1, .int .i64 way] u fun e u' => e = .returned (.tuple #[.int .i64 R, .bool jb]) ∧ Kept u u') :
    Calls Try.prog 7 #[v, .int .i64 at1, .int .i64 way] w fun e w' => e = .returned (.bool true) ∧ Kept w w' := by
  have hdl : decide ((1048576 : Int) - (l.length : Int) < 0) = false := by simp; omega
  have HS : Hid (∀ (u : World) (v : Value), PlacedAt u v l → Calls Try.prog 28 #[v, .int .i64 at1, .int .i64 way] u fun e u' => e = .returned (.tuple #[.int .i64 R, .bool jb]) ∧ Kept u u') := hS
  have HI : Hid (∀ (u : World) (v : Value), PlacedAt u v l → Calls Try.prog 30 #[v, .int .i64 at1, .int .i64 way] u fun e u' => e = .returned (.tuple #[.int .i64 R, .bool jb]) ∧ Kept u u') := hI
  clear hS hI
  obtain ⟨ao, cap, hfm⟩ := row_nil hv
  subst hfm
  go_enter Try.func7, Try.ntmps7
  repeat (first | go_values | go_skip | go_guarded | go_step | go_upon)
  go_at_call 27
  refine (szPlacedS l _ _ _ hv (by omega) (by omega) (by omega)).mono ?_
  rintro e u1 ⟨rfl, k1⟩
  rw [leftOf_yes (by omega)]
  have K1 := k1
  have s1 := k1.size
  clear k1
  dsimp only
  repeat (first | go_values | go_skip | go_guarded | go_step | go_upon)
  go_at_call 29
  refine (toPlacedS l _ _ (hv.kept K1) (by omega)).mono ?_
  rintro e u2 ⟨v2, rfl, o2, k2⟩
  have K2 := K1.trans k2
  have s2 := k2.size
  clear k2 K1
  obtain ⟨ao2, cap2, hfm⟩ := o2.form
  subst hfm
  dsimp only
  repeat (first | go_values | go_skip | go_guarded | go_step | go_upon)
  go_at_call 28
  refine (HS.out _ _ o2.at).mono ?_
  rintro e u3 ⟨rfl, k3⟩
  have K3 := K2.trans k3
  have o2 := o2.kept k3
  have s3 := k3.size
  clear k3 K2
  clear o2
  dsimp only
  repeat (first | go_values | go_skip | go_guarded | go_step | go_upon)
  go_at_call 29
  refine (toPlacedS l _ _ (hv.kept K3) (by omega)).mono ?_
  rintro e u4 ⟨v4, rfl, ox, k4⟩
  have K4 := K3.trans k4
  have s4 := k4.size
  clear k4 K3
  obtain ⟨ao4, cap4, hfm⟩ := ox.form
  subst hfm
  dsimp only
  repeat (first | go_values | go_skip | go_guarded | go_step | go_upon)
  go_at_call 30
  refine (HI.out _ _ ox.at).mono ?_
  rintro e u5 ⟨rfl, k5⟩
  have K5 := K4.trans k5
  have ox := ox.kept k5
  have s5 := k5.size
  clear k5 K4
  dsimp only
  repeat (first | go_values | go_skip | go_guarded | go_step | go_upon)
  go_at_call 29
  refine (toPlacedS l _ _ (hv.kept K5) (by omega)).mono ?_
  rintro e u6 ⟨v6, rfl, oz, k6⟩
  have K6 := K5.trans k6
  have ox := ox.kept k6
  have s6 := k6.size
  clear k6 K5
  obtain ⟨ao6, cap6, hfm⟩ := oz.form
  subst hfm
  dsimp only
  repeat (first | go_values | go_skip | go_guarded | go_step | go_upon)
  go_at_call 21
  refine (eqPlacedS l _ _ _ ox.at oz.at (by omega)).mono ?_
  rintro e u7 ⟨rfl, k7⟩
  have K7 := K6.trans k7
  have ox := ox.kept k7
  have oz := oz.kept k7
  have s7 := k7.size
  clear k7 K6
  dsimp only
  repeat (first | go_values | go_skip | go_guarded | go_step | go_upon)
  go_ret
  exact ⟨rfl, K7⟩
set_option maxRecDepth 100000 in
set_option maxHeartbeats 8000000 in
theorem big (l : List PlacedD) (at1 way : Int) (v : Value) (w : World) (hv : PlacedAt w v l) (hlen : l.length ≤ maxLen) (hl : 1048576 < l.length) :
    Calls Try.prog 7 #[v, .int .i64 at1, .int .i64 way] w fun e w' => e = .returned (.bool true) ∧ Kept w w' := by
  unfold maxLen at hlen
  obtain ⟨ao, cap, hfm⟩ := row_nil hv
  subst hfm
  go_enter Try.func7, Try.ntmps7
  repeat (first | go_values | go_skip | go_guarded | go_step | go_upon)
  go_at_call 27
  refine (szPlacedS l _ _ _ hv (by omega) (by omega) (by omega)).mono ?_
  rintro e u1 ⟨rfl, k1⟩
  rw [leftOf_no (by omega)]
  dsimp only
  repeat (first | go_values | go_skip | go_guarded | go_step | go_upon)
  go_ret
  exact ⟨rfl, k1⟩
theorem all (l : List PlacedD) (v : Value) {w : World} (hv : PlacedAt w v l) (hq : ∀ p ∈ l, True) (hlen : l.length ≤ maxLen) (at1 way : Int) (w' : World) (_ : w' = w) :
    Calls Try.prog 7 #[v, .int .i64 at1, .int .i64 way] w fun e w' => e = .returned (.bool true) ∧ Kept w w' := by
  by_cases hl : l.length ≤ 1048576
  · exact walk l at1 way _ _ v w hv hl (fun u v h => sfoc l at1 way v u h hl) (fun u v h => ifoc l at1 way v u h hl)
  · exact big l at1 way v w hv hlen (by omega)


set_option maxRecDepth 100000 in
theorem lifted (os : Os) (started : os.Started) (H : Type) (enc : TypeId × Value → H) :
    ReturnsInHanded {} Try.checked os 7 .any (Rows.fnExactNextFocusSpec.pre6 enc Try.prog Try.f7 Rows.fnExactNextFocusRow.domain false) (Rows.fnExactNextFocusSpec.post enc Try.prog Try.f7 false true false false) := by
  refine returnsInHanded_of_change (C := Try.checked) own started (by kernel_rfl) Try.func7
    (ChangeSpec.witness6 (enc := enc) (C := Try.checked) false ⟨#[], #[.slice none 0 0, .int .i64 0, .int .i64 0], []⟩ 8 (by kernel_rfl) (by kernel_rfl) (by kernel_rfl) (by kernel_rfl)) ?_
  intro W base args ds gs before hval0 hW hcnd _
  have hval : ∀ (j : Nat) t v, Try.f7.params[j]? = some t → args[j]? = some v → Value.okWide Try.prog W .any base t v := hval0
  have hW' := hW
  obtain ⟨p, q, hA0, hV, rfl, hfz, hnd⟩ := hW
  have hA : DataW.TrodAll enc Try.prog W 0 (fun _ => true) true Try.f7.params.toList args.toList ds p := hA0
  rw [Try.params7] at hA hval
  obtain ⟨v0, vs0, d0, ds0, p0, q0, hargs, rfl, rfl, h0, r0⟩ := trodAll_cons hA
  obtain ⟨v1, vs1, d1, ds1, p1, q1, rfl, rfl, rfl, h1, r1⟩ := trodAll_cons r0
  obtain ⟨v2, vs2, d2, ds2, p2, q2, rfl, rfl, rfl, h2, r2⟩ := trodAll_cons r1
  obtain ⟨rfl, rfl, rfl⟩ := trodAll_nil r2
  obtain rfl : args = #[v0, v1, v2] := by cases args; simp_all
  obtain ⟨rfl, rfl⟩ := trodVars_none hV
  obtain ⟨l0, hv0, hq0, hl0⟩ := open_placedS (hval 0 45 v0 rfl rfl) h0
  obtain ⟨a1, rfl, rfl, rfl, w1⟩ := open_int Try.underlying3 (hval 1 3 v1 rfl rfl) h1
  obtain ⟨a2, rfl, rfl, rfl, w2⟩ := open_int Try.underlying3 (hval 2 3 v2 rfl rfl) h2
  clear hA0 hval0
  simp only [List.append_nil] at hW'
  refine (all l0 v0 hv0 hq0 hl0 a1 a2 W rfl).mono fun e W' ⟨he, hg⟩ => ?_
  subst he
  exact ⟨_, rfl, post_of_kept (pa := _) (pv := []) hW' (fun _ _ _ => (trodAll_cons_mk (shut_bool Try.underlying4 _) trodAll_mk0)) (fun sp hsp => (trodAll_cons_mk (kept_trod (by kernel_rfl) (of_decide_eq_true (by kernel_rfl)) h0 hg (fun x hx => hW'.lt x (by simp [hx])) (fun x hx => hsp x (by simp [hx]))) (trodAll_cons_mk (shut_int Try.underlying3 w1) (trodAll_cons_mk (shut_int Try.underlying3 w2) trodAll_mk0)))) (fun _ _ => rfl) hg⟩

theorem over : Rows.fnExactNextFocusRow.holds Try.pinned (OpenSpec.ofChange Rows.fnExactNextFocusSpec) :=
  OpenClaim.holds_of_wide 7 Try.f7 rfl rfl rfl rfl rfl rfl rfl ⟨rfl, rfl, rfl, rfl, rfl⟩ rfl rfl rfl rfl rfl (by kernel_rfl) Try.func7 (by kernel_rfl)
    (of_decide_eq_true (by kernel_rfl)) (by unfold Func.isWrapper; first | (rw [if_pos (by decide +kernel)]; kernel_rfl) | (rw [if_neg (by decide +kernel)]; exact ⟨rfl, rfl⟩))
    (fun os started H enc _ => lifted os started H enc)

theorem proved : Rows.FnExactNextFocusSaid :=
  over
#print axioms proved
end Go.Proofs.Ytaofilinejanjaa.fnExactNextFocus
