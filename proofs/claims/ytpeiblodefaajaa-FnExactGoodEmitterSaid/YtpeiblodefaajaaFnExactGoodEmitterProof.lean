/-
  At every emitter the program's GoodEmitter answers what the specification's GoodEmitter answers, and writes into no argument.
-/
import Derived.Test.YtpeiblodefaajaaRows
import Derived.Test.YtpeiblodefaajaaGood12
import Derived.Test.YtpeiblodefaajaaTo
import Derived.Test.YtpeiblodefaajaaOpen
import Derived.ChangeMaps
namespace Go.Proofs.Ytpeiblodefaajaa.fnExactGoodEmitter
open Go.ChangeShapes Go.WideShapes Go.ChangeAt Go.RowKit
set_option linter.unusedVariables false

theorem own : ownKnob Try.prog.godebug = none := by kernel_rfl

set_option maxRecDepth 100000 in
set_option maxHeartbeats 4000000 in
theorem walk (x y ev bu li sv fa : Int) (w : World) : Calls Try.prog 3 #[.agg #[.int .i64 x, .int .i64 y, .int .i64 ev, .int .i64 bu, .int .i64 li, .int .i64 sv, .int .i64 fa]] w fun e w' => e = .returned (.bool true) ∧ Kept w w' := by
  obtain ⟨J, hJ⟩ : ∃ j, decide (EmitP x y ev bu li sv fa) = j := ⟨_, rfl⟩
  have HJ : Hid (decide (EmitP x y ev bu li sv fa) = J) := hJ
  clear hJ
  go_enter Try.func3, Try.ntmps3
  repeat (first | go_values | go_skip | go_guarded | go_step | go_upon)
  go_at_call 9
  refine (toEmitter _ _ _ _ _ _ _ _).mono ?_
  rintro e w1 ⟨rfl, k1⟩
  have La := (Loc.new w [.int .i64 x, .int .i64 y, .int .i64 ev, .int .i64 bu, .int .i64 li, .int .i64 sv, .int .i64 fa] 23).kept k1
  have K1 : Kept w w1 := ((But.refl _ _ _).alloc _).trans k1
  dsimp only
  repeat (first | go_values | go_skip | go_guarded | go_step | go_upon)
  go_at_call 8
  refine (sgoodE _ _ _ _ _ _ _ _).mono ?_
  rintro e w2 ⟨rfl, k2⟩
  rw [HJ.out]
  have K2 := K1.trans k2
  have La := La.kept k2
  have a0 := La.cell 0 rfl
  have a1 := La.cell 1 rfl
  have a2 := La.cell 2 rfl
  have a3 := La.cell 3 rfl
  have a4 := La.cell 4 rfl
  have a5 := La.cell 5 rfl
  have a6 := La.cell 6 rfl
  have al := La.lt
  dsimp only
  repeat (first | go_values | go_skip | go_guarded | go_step | go_upon)
  go_at_call 9
  refine (toEmitter _ _ _ _ _ _ _ _).mono ?_
  rintro e w3 ⟨rfl, k3⟩
  have K3 := K2.trans k3
  have La := La.kept k3
  clear a0 a1 a2 a3 a4 a5 a6 al
  dsimp only
  repeat (first | go_values | go_skip | go_guarded | go_step | go_upon)
  go_at_call 10
  refine (igoodE _ _ _ _ _ _ _ _).mono ?_
  rintro e w4 ⟨rfl, k4⟩
  rw [HJ.out]
  have K4 := K3.trans k4
  have La := La.kept k4
  dsimp only
  repeat (first | go_values | go_skip | go_guarded | go_step | go_upon)
  go_ret
  exact ⟨rfl, K4⟩

theorem all (p : EmitterD) (w : World) : Calls Try.prog 3 #[.agg (emitterC p).toArray] w fun e w' => e = .returned (.bool true) ∧ Kept w w' := by
  obtain ⟨x, y, ev, bu, li, sv, fa⟩ := p
  exact walk x y ev bu li sv fa w


set_option maxRecDepth 100000 in
theorem lifted (os : Os) (started : os.Started) (H : Type) (enc : TypeId × Value → H) :
    ReturnsInHanded {} Try.checked os 3 .any (Rows.fnExactGoodEmitterSpec.pre6 enc Try.prog Try.f3 Rows.fnExactGoodEmitterRow.domain false) (Rows.fnExactGoodEmitterSpec.post enc Try.prog Try.f3 false true false false) := by
  refine returnsInHanded_of_change (C := Try.checked) own started (by kernel_rfl) Try.func3
    (ChangeSpec.witness6 (enc := enc) (C := Try.checked) false ⟨#[], #[.agg #[.int .i64 0, .int .i64 0, .int .i64 0, .int .i64 0, .int .i64 0, .int .i64 0, .int .i64 0]], []⟩ 8 (by kernel_rfl) (by kernel_rfl) (by kernel_rfl) (by kernel_rfl)) ?_
  intro W base args ds gs before hval0 hW hcnd _
  have hval : ∀ (j : Nat) t v, Try.f3.params[j]? = some t → args[j]? = some v → Value.okWide Try.prog W .any base t v := hval0
  have hW' := hW
  obtain ⟨p, q, hA0, hV, rfl, hfz, hnd⟩ := hW
  have hA : DataW.TrodAll enc Try.prog W 0 (fun _ => true) true Try.f3.params.toList args.toList ds p := hA0
  rw [Try.params3] at hA hval
  obtain ⟨v0, vs0, d0, ds0, p0, q0, hargs, rfl, rfl, h0, r0⟩ := trodAll_cons hA
  obtain ⟨rfl, rfl, rfl⟩ := trodAll_nil r0
  obtain rfl : args = #[v0] := by cases args; simp_all
  obtain ⟨rfl, rfl⟩ := trodVars_none hV
  obtain ⟨a0, e0⟩ := open_emitterV (hval 0 23 v0 rfl rfl) h0
  subst e0
  clear hA0 hval0
  simp only [List.append_nil] at hW'
  refine (all a0 W).mono fun e W' ⟨he, hg⟩ => ?_
  subst he
  exact ⟨_, rfl, post_of_kept (pa := _) (pv := []) hW' (fun _ _ _ => (trodAll_cons_mk (shut_bool Try.underlying4 _) trodAll_mk0)) (fun sp hsp => (trodAll_cons_mk (kept_trod (by kernel_rfl) (of_decide_eq_true (by kernel_rfl)) h0 hg (fun x hx => hW'.lt x (by simp [hx])) (fun x hx => hsp x (by simp [hx]))) trodAll_mk0)) (fun _ _ => rfl) hg⟩

theorem over : Rows.fnExactGoodEmitterRow.holds Try.pinned (OpenSpec.ofChange Rows.fnExactGoodEmitterSpec) :=
  OpenClaim.holds_of_wide 3 Try.f3 rfl rfl rfl rfl rfl rfl rfl ⟨rfl, rfl, rfl, rfl, rfl⟩ rfl rfl rfl rfl rfl (by kernel_rfl) Try.func3 (by kernel_rfl)
    (of_decide_eq_true (by kernel_rfl)) (by unfold Func.isWrapper; first | (rw [if_pos (by decide +kernel)]; kernel_rfl) | (rw [if_neg (by decide +kernel)]; exact ⟨rfl, rfl⟩))
    (fun os started H enc _ => lifted os started H enc)

theorem proved : Rows.FnExactGoodEmitterSaid :=
  over
#print axioms proved
end Go.Proofs.Ytpeiblodefaajaa.fnExactGoodEmitter
