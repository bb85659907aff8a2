/-
  At every list of weights and every seed the program's PickByWeight answers what the specification's PickByWeight answers, and writes into no argument.
-/
import Derived.Test.YtpeiblodefaajaaRows
import Derived.Test.YtpeiblodefaajaaPickB12
import Derived.Test.YtpeiblodefaajaaNum
import Derived.Test.YtpeiblodefaajaaText
import Derived.ChangeMaps
namespace Go.Proofs.Ytpeiblodefaajaa.fnExactPickByWeight
open Go.ChangeShapes Go.WideShapes Go.ChangeAt Go.RowKit
set_option linter.unusedVariables false

theorem own : ownKnob Try.prog.godebug = none := by kernel_rfl

set_option maxRecDepth 100000 in
set_option maxHeartbeats 8000000 in
theorem walk (l : List Int) (sd : Int) (v : Value) (w : World) (hv : NumAt w v l) (hl : l.length ≤ 1048576) :
    Calls Try.prog 5 #[v, .int .i64 sd] w fun e w' => e = .returned (.bool true) ∧ Kept w w' := by
  obtain ⟨⟨z, nx, J⟩, hJ⟩ : ∃ j, pickA l sd = j := ⟨_, rfl⟩
  have HJ : Hid (pickA l sd = (z, nx, J)) := hJ
  clear hJ
  have hdl : decide ((1048576 : Int) < (l.length : Int)) = false := by simp; omega
  obtain ⟨ao, cap, hfm⟩ := row_nil hv
  subst hfm
  go_enter Try.func5, Try.ntmps5
  repeat (first | go_values | go_skip | go_guarded | go_step | go_upon)
  go_at_call 17
  refine (toNumS l _ _ hv hl).mono ?_
  rintro e u1 ⟨v1, rfl, o1, k1⟩
  obtain ⟨ao1, cap1, hfm⟩ := o1.form
  subst hfm
  dsimp only
  repeat (first | go_values | go_skip | go_guarded | go_step | go_upon)
  go_at_call 16
  refine (spick l sd _ _ o1.at (by omega)).mono ?_
  rintro e u2 ⟨rfl, k2⟩
  rw [HJ.out]
  have K2 := k1.trans k2
  clear k1 k2 o1
  dsimp only
  repeat (first | go_values | go_skip | go_guarded | go_step | go_upon)
  go_at_call 17
  refine (toNumS l _ _ (hv.kept K2) hl).mono ?_
  rintro e u3 ⟨v3, rfl, ox, k3⟩
  have K3 := K2.trans k3
  clear k3 K2
  obtain ⟨ao3, cap3, hfm⟩ := ox.form
  subst hfm
  dsimp only
  repeat (first | go_values | go_skip | go_guarded | go_step | go_upon)
  go_at_call 18
  refine (ipick l sd _ _ ox.at (by omega)).mono ?_
  rintro e u4 ⟨rfl, k4⟩
  rw [HJ.out]
  have K4 := K3.trans k4
  have ox := ox.kept k4
  clear k4 K3
  dsimp only
  repeat (first | go_values | go_skip | go_guarded | go_step | go_upon)
  go_at_call 17
  refine (toNumS l _ _ (hv.kept K4) hl).mono ?_
  rintro e u5 ⟨v5, rfl, o5, k5⟩
  have K5 := K4.trans k5
  have ox := ox.kept k5
  clear k5 K4
  obtain ⟨ao5, cap5, hfm⟩ := o5.form
  subst hfm
  dsimp only
  repeat (first | go_values | go_skip | go_guarded | go_step | go_upon)
  go_at_call 19
  refine (eqNumS l _ _ _ ox.at o5.at (by omega)).mono ?_
  rintro e u6 ⟨rfl, k6⟩
  have K6 := K5.trans k6
  dsimp only
  repeat (first | go_values | go_skip | go_guarded | go_step | go_upon)
  go_ret
  exact ⟨rfl, K6⟩

set_option maxRecDepth 100000 in
set_option maxHeartbeats 1000000 in
theorem big (l : List Int) (sd : Int) (v : Value) (w : World) (hv : NumAt w v l) (hn : l.length ≤ 9223372036854775807) (hl : 1048576 < l.length) :
    Calls Try.prog 5 #[v, .int .i64 sd] w fun e w' => e = .returned (.bool true) ∧ Kept w w' := by
  have hdl : decide ((1048576 : Int) < (l.length : Int)) = true := by simp; omega
  obtain ⟨ao, cap, hfm⟩ := row_nil hv
  subst hfm
  go_enter Try.func5, Try.ntmps5
  repeat (first | go_values | go_skip | go_guarded | go_step | go_upon)
  go_ret
  exact ⟨rfl, But.refl _ _ _⟩

theorem all (l : List NumD) (v : Value) {w : World} (hv : NumAt w v l) (_ : ∀ p ∈ l, True) (hm : l.length ≤ maxLen) (sd : Int) (w' : World) (_ : w' = w) :
    Calls Try.prog 5 #[v, .int .i64 sd] w fun e w' => e = .returned (.bool true) ∧ Kept w w' := by
  have hm' : l.length ≤ 9223372036854775807 := by unfold maxLen at hm; omega
  by_cases hl : l.length ≤ 1048576
  · exact walk l sd v w hv hl
  · exact big l sd v w hv hm' (by omega)


set_option maxRecDepth 100000 in
theorem lifted (os : Os) (started : os.Started) (H : Type) (enc : TypeId × Value → H) :
    ReturnsInHanded {} Try.checked os 5 .any (Rows.fnExactPickByWeightSpec.pre6 enc Try.prog Try.f5 Rows.fnExactPickByWeightRow.domain false) (Rows.fnExactPickByWeightSpec.post enc Try.prog Try.f5 false true false false) := by
  refine returnsInHanded_of_change (C := Try.checked) own started (by kernel_rfl) Try.func5
    (ChangeSpec.witness6 (enc := enc) (C := Try.checked) false ⟨#[], #[.slice none 0 0, .int .i64 0], []⟩ 8 (by kernel_rfl) (by kernel_rfl) (by kernel_rfl) (by kernel_rfl)) ?_
  intro W base args ds gs before hval0 hW hcnd _
  have hval : ∀ (j : Nat) t v, Try.f5.params[j]? = some t → args[j]? = some v → Value.okWide Try.prog W .any base t v := hval0
  have hW' := hW
  obtain ⟨p, q, hA0, hV, rfl, hfz, hnd⟩ := hW
  have hA : DataW.TrodAll enc Try.prog W 0 (fun _ => true) true Try.f5.params.toList args.toList ds p := hA0
  rw [Try.params5] at hA hval
  obtain ⟨v0, vs0, d0, ds0, p0, q0, hargs, rfl, rfl, h0, r0⟩ := trodAll_cons hA
  obtain ⟨v1, vs1, d1, ds1, p1, q1, rfl, rfl, rfl, h1, r1⟩ := trodAll_cons r0
  obtain ⟨rfl, rfl, rfl⟩ := trodAll_nil r1
  obtain rfl : args = #[v0, v1] := by cases args; simp_all
  obtain ⟨rfl, rfl⟩ := trodVars_none hV
  obtain ⟨l0, hv0, hq0, hl0⟩ := open_numS (hval 0 39 v0 rfl rfl) h0
  obtain ⟨a1, rfl, rfl, rfl, w1⟩ := open_int Try.underlying3 (hval 1 3 v1 rfl rfl) h1
  clear hA0 hval0
  simp only [List.append_nil] at hW'
  refine (all l0 v0 hv0 hq0 hl0 a1 W rfl).mono fun e W' ⟨he, hg⟩ => ?_
  subst he
  exact ⟨_, rfl, post_of_kept (pa := _) (pv := []) hW' (fun _ _ _ => (trodAll_cons_mk (shut_bool Try.underlying4 _) trodAll_mk0)) (fun sp hsp => (trodAll_cons_mk (kept_trod (by kernel_rfl) (of_decide_eq_true (by kernel_rfl)) h0 hg (fun x hx => hW'.lt x (by simp [hx])) (fun x hx => hsp x (by simp [hx]))) (trodAll_cons_mk (shut_int Try.underlying3 w1) trodAll_mk0))) (fun _ _ => rfl) hg⟩

theorem over : Rows.fnExactPickByWeightRow.holds Try.pinned (OpenSpec.ofChange Rows.fnExactPickByWeightSpec) :=
  OpenClaim.holds_of_wide 5 Try.f5 rfl rfl rfl rfl rfl rfl rfl ⟨rfl, rfl, rfl, rfl, rfl⟩ rfl rfl rfl rfl rfl (by kernel_rfl) Try.func5 (by kernel_rfl)
    (of_decide_eq_true (by kernel_rfl)) (by unfold Func.isWrapper; first | (rw [if_pos (by decide +kernel)]; kernel_rfl) | (rw [if_neg (by decide +kernel)]; exact ⟨rfl, rfl⟩))
    (fun os started H enc _ => lifted os started H enc)

theorem proved : Rows.FnExactPickByWeightSaid :=
  over
#print axioms proved
end Go.Proofs.Ytpeiblodefaajaa.fnExactPickByWeight
