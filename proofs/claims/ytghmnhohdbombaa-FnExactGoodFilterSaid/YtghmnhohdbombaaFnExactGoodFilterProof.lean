/-
  At every filter the program's GoodFilter answers what the specification's GoodFilter answers.
-/
import Derived.Test.YtghmnhohdbombaaRows
import Derived.Test.YtghmnhohdbombaaGood16
import Derived.Test.YtghmnhohdbombaaQuiet
import Derived.ChangeMaps
namespace Go.Proofs.Ytghmnhohdbombaa.fnExactGoodFilter
open Go.ChangeShapes Go.WideShapes Go.ChangeAt Go.RowKit
set_option linter.unusedVariables false

theorem own : ownKnob Try.prog.godebug = none := by kernel_rfl

set_option maxRecDepth 100000 in
set_option maxHeartbeats 8000000 in
theorem walk (f0 f1 f2 f3 f4 : Nat) (hb0 : f0 < 18446744073709551616) (hb1 : f1 < 18446744073709551616) (hb2 : f2 < 18446744073709551616) (hb3 : f3 < 18446744073709551616) (hb4 : f4 < 18446744073709551616) (w : World) :
    Calls Try.prog 4 #[.agg #[.float .f64 f0, .float .f64 f1, .float .f64 f2, .float .f64 f3, .float .f64 f4]] w fun e w' => e = .returned (.bool true) ∧ Kept w w' := by
  obtain ⟨J, hJ⟩ : ∃ j, (good f0 && good f1 && good f2 && good f3 && good f4) = j := ⟨_, rfl⟩
  have HJ : Hid ((good f0 && good f1 && good f2 && good f3 && good f4) = J) := hJ
  clear hJ
  go_enter Try.func4, Try.ntmps4
  repeat (first | go_values | go_skip | go_guarded | go_step | go_upon)
  go_at_call 14
  refine (toFilter f0 f1 f2 f3 f4 _).mono ?_
  rintro e u1 ⟨rfl, k1⟩
  have K1 : Kept w u1 := ((But.refl _ _ _).alloc _).trans k1
  have La := (Loc.new w [.float .f64 f0, .float .f64 f1, .float .f64 f2, .float .f64 f3, .float .f64 f4] 34).kept k1
  dsimp only
  repeat (first | go_values | go_skip | go_guarded | go_step | go_upon)
  go_at_call 13
  refine (sgoodF f0 f1 f2 f3 f4 hb0 hb1 hb2 hb3 hb4 _).mono ?_
  rintro e u2 ⟨rfl, k2⟩
  rw [HJ.out]
  have K2 := K1.trans k2
  have La := La.kept k2
  have a0 := La.cell 0 rfl
  have a1 := La.cell 1 rfl
  have a2 := La.cell 2 rfl
  have a3 := La.cell 3 rfl
  have a4 := La.cell 4 rfl
  have al := La.lt
  dsimp only
  repeat (first | go_values | go_skip | go_guarded | go_step | go_upon)
  go_at_call 14
  refine (toFilter f0 f1 f2 f3 f4 _).mono ?_
  rintro e u3 ⟨rfl, k3⟩
  have K3 := K2.trans k3
  dsimp only
  repeat (first | go_values | go_skip | go_guarded | go_step | go_upon)
  go_at_call 15
  refine (igoodF f0 f1 f2 f3 f4 hb0 hb1 hb2 hb3 hb4 _).mono ?_
  rintro e u4 ⟨rfl, k4⟩
  rw [HJ.out]
  have K4 := K3.trans k4
  dsimp only
  repeat (first | go_values | go_skip | go_guarded | go_step | go_upon)
  go_ret
  exact ⟨rfl, K4⟩

theorem all (p : FilterD) (hp : FilterOk p) {w : World} (w0 : World) (_ : w0 = w) :
    Calls Try.prog 4 #[.agg (filterC p).toArray] w fun e w' => e = .returned (.bool true) ∧ Kept w w' := by
  obtain ⟨h0, h1, h2, h3, h4⟩ := hp
  exact walk _ _ _ _ _ h0 h1 h2 h3 h4 w


set_option maxRecDepth 100000 in
theorem lifted (os : Os) (started : os.Started) (H : Type) (enc : TypeId × Value → H) :
    ReturnsInHanded {} Try.checked os 4 .any (Rows.fnExactGoodFilterSpec.pre6 enc Try.prog Try.f4 Rows.fnExactGoodFilterRow.domain false) (Rows.fnExactGoodFilterSpec.post enc Try.prog Try.f4 false true false false) := by
  refine returnsInHanded_of_change (C := Try.checked) own started (by kernel_rfl) Try.func4
    (ChangeSpec.witness6 (enc := enc) (C := Try.checked) false ⟨#[], #[.agg #[.float .f64 0, .float .f64 0, .float .f64 0, .float .f64 0, .float .f64 0]], []⟩ 8 (by kernel_rfl) (by kernel_rfl) (by kernel_rfl) (by kernel_rfl)) ?_
  intro W base args ds gs before hval0 hW hcnd _
  have hval : ∀ (j : Nat) t v, Try.f4.params[j]? = some t → args[j]? = some v → Value.okWide Try.prog W .any base t v := hval0
  have hW' := hW
  obtain ⟨p, q, hA0, hV, rfl, hfz, hnd⟩ := hW
  have hA : DataW.TrodAll enc Try.prog W 0 (fun _ => true) true Try.f4.params.toList args.toList ds p := hA0
  rw [Try.params4] at hA hval
  obtain ⟨v0, vs0, d0, ds0, p0, q0, hargs, rfl, rfl, h0, r0⟩ := trodAll_cons hA
  obtain ⟨rfl, rfl, rfl⟩ := trodAll_nil r0
  obtain rfl : args = #[v0] := by cases args; simp_all
  obtain ⟨rfl, rfl⟩ := trodVars_none hV
  obtain ⟨a0, e0, q0'⟩ := open_filterV (hval 0 34 v0 rfl rfl) h0
  subst e0
  clear hA0 hval0
  simp only [List.append_nil] at hW'
  refine (all a0 q0' W rfl).mono fun e W' ⟨he, hg⟩ => ?_
  subst he
  exact ⟨_, rfl, post_of_kept (pa := _) (pv := []) hW' (fun _ _ _ => (trodAll_cons_mk (shut_bool Try.underlying4 _) trodAll_mk0)) (fun sp hsp => (trodAll_cons_mk (kept_trod (by kernel_rfl) (of_decide_eq_true (by kernel_rfl)) h0 hg (fun x hx => hW'.lt x (by simp [hx])) (fun x hx => hsp x (by simp [hx]))) trodAll_mk0)) (fun _ _ => rfl) hg⟩

theorem over : Rows.fnExactGoodFilterRow.holds Try.pinned (OpenSpec.ofChange Rows.fnExactGoodFilterSpec) :=
  OpenClaim.holds_of_wide 4 Try.f4 rfl rfl rfl rfl rfl rfl rfl ⟨rfl, rfl, rfl, rfl, rfl⟩ rfl rfl rfl rfl rfl (by kernel_rfl) Try.func4 (by kernel_rfl)
    (of_decide_eq_true (by kernel_rfl)) (by unfold Func.isWrapper; first | (rw [if_pos (by decide +kernel)]; kernel_rfl) | (rw [if_neg (by decide +kernel)]; exact ⟨rfl, rfl⟩))
    (fun os started H enc _ => lifted os started H enc)

theorem proved : Rows.FnExactGoodFilterSaid :=
  over
#print axioms proved
end Go.Proofs.Ytghmnhohdbombaa.fnExactGoodFilter
