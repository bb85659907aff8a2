/-
  At every turn the program's PowerOf answers what the specification's PowerOf answers.
-/
import Derived.Test.YtghmnhohdbombaaRows
import Derived.Test.YtghmnhohdbombaaPow16
import Derived.Test.YtghmnhohdbombaaQuiet
import Derived.ChangeMaps
namespace Go.Proofs.Ytghmnhohdbombaa.fnExactPowerOf
open Go.ChangeShapes Go.WideShapes Go.ChangeAt Go.RowKit
set_option linter.unusedVariables false

theorem own : ownKnob Try.prog.godebug = none := by kernel_rfl

set_option maxRecDepth 100000 in
set_option maxHeartbeats 8000000 in
theorem walk (a b : Nat) (ha : a < 18446744073709551616) (hb : b < 18446744073709551616) (w : World) :
    Calls Try.prog 7 #[.agg #[.float .f64 a, .float .f64 b]] w fun e w' => e = .returned (.bool true) ∧ Kept w w' := by
  obtain ⟨R, hR⟩ : ∃ j, (powM a b).1 = j := ⟨_, rfl⟩
  obtain ⟨J, hJ⟩ : ∃ j, (powM a b).2 = j := ⟨_, rfl⟩
  have HJ : Hid ((powM a b).1 = R ∧ (powM a b).2 = J) := ⟨hR, hJ⟩
  clear hR hJ
  go_enter Try.func7, Try.ntmps7
  repeat (first | go_values | go_skip | go_guarded | go_step | go_upon)
  go_at_call 28
  refine (toTurn a b _).mono ?_
  rintro e u1 ⟨rfl, k1⟩
  have K1 : Kept w u1 := ((But.refl _ _ _).alloc _).trans k1
  have La := (Loc.new w [.float .f64 a, .float .f64 b] 52).kept k1
  dsimp only
  repeat (first | go_values | go_skip | go_guarded | go_step | go_upon)
  go_at_call 27
  refine (spow a b ha hb _).mono ?_
  rintro e u2 ⟨rfl, k2⟩
  rw [HJ.out.1, HJ.out.2]
  have K2 := K1.trans k2
  have La := La.kept k2
  have a0 := La.cell 0 rfl
  have a1 := La.cell 1 rfl
  have al := La.lt
  dsimp only
  repeat (first | go_values | go_skip | go_guarded | go_step | go_upon)
  go_at_call 28
  refine (toTurn a b _).mono ?_
  rintro e u3 ⟨rfl, k3⟩
  have K3 := K2.trans k3
  dsimp only
  repeat (first | go_values | go_skip | go_guarded | go_step | go_upon)
  go_at_call 29
  refine (ipow a b ha hb _).mono ?_
  rintro e u4 ⟨rfl, k4⟩
  rw [HJ.out.1, HJ.out.2]
  have K4 := K3.trans k4
  dsimp only
  repeat (first | go_values | go_skip | go_guarded | go_step | go_upon)
  go_at_call 30
  refine (sameFloat R R rfl _).mono ?_
  rintro e u5 ⟨rfl, rfl⟩
  dsimp only
  repeat (first | go_values | go_skip | go_guarded | go_step | go_upon)
  go_ret
  exact ⟨rfl, by first | exact K4 | exact K4.drewN _ | exact K4.drew⟩

theorem all (p : TurnD) (hp : TurnOk p) {w : World} (w0 : World) (_ : w0 = w) :
    Calls Try.prog 7 #[.agg (turnC p).toArray] w fun e w' => e = .returned (.bool true) ∧ Kept w w' := by
  obtain ⟨h0, h1⟩ := hp
  exact walk _ _ h0 h1 w


set_option maxRecDepth 100000 in
theorem lifted (os : Os) (started : os.Started) (H : Type) (enc : TypeId × Value → H) :
    ReturnsInHanded {} Try.checked os 7 .any (Rows.fnExactPowerOfSpec.pre6 enc Try.prog Try.f7 Rows.fnExactPowerOfRow.domain false) (Rows.fnExactPowerOfSpec.post enc Try.prog Try.f7 false true false false) := by
  refine returnsInHanded_of_change (C := Try.checked) own started (by kernel_rfl) Try.func7
    (ChangeSpec.witness6 (enc := enc) (C := Try.checked) false ⟨#[], #[.agg #[.float .f64 0, .float .f64 0]], []⟩ 8 (by kernel_rfl) (by kernel_rfl) (by kernel_rfl) (by kernel_rfl)) ?_
  intro W base args ds gs before hval0 hW hcnd _
  have hval : ∀ (j : Nat) t v, Try.f7.params[j]? = some t → args[j]? = some v → Value.okWide Try.prog W .any base t v := hval0
  have hW' := hW
  obtain ⟨p, q, hA0, hV, rfl, hfz, hnd⟩ := hW
  have hA : DataW.TrodAll enc Try.prog W 0 (fun _ => true) true Try.f7.params.toList args.toList ds p := hA0
  rw [Try.params7] at hA hval
  obtain ⟨v0, vs0, d0, ds0, p0, q0, hargs, rfl, rfl, h0, r0⟩ := trodAll_cons hA
  obtain ⟨rfl, rfl, rfl⟩ := trodAll_nil r0
  obtain rfl : args = #[v0] := by cases args; simp_all
  obtain ⟨rfl, rfl⟩ := trodVars_none hV
  obtain ⟨a0, e0, q0'⟩ := open_turnV (hval 0 52 v0 rfl rfl) h0
  subst e0
  clear hA0 hval0
  simp only [List.append_nil] at hW'
  refine (all a0 q0' W rfl).mono fun e W' ⟨he, hg⟩ => ?_
  subst he
  exact ⟨_, rfl, post_of_kept (pa := _) (pv := []) hW' (fun _ _ _ => (trodAll_cons_mk (shut_bool Try.underlying4 _) trodAll_mk0)) (fun sp hsp => (trodAll_cons_mk (kept_trod (by kernel_rfl) (of_decide_eq_true (by kernel_rfl)) h0 hg (fun x hx => hW'.lt x (by simp [hx])) (fun x hx => hsp x (by simp [hx]))) trodAll_mk0)) (fun _ _ => rfl) hg⟩

theorem over : Rows.fnExactPowerOfRow.holds Try.pinned (OpenSpec.ofChange Rows.fnExactPowerOfSpec) :=
  OpenClaim.holds_of_wide 7 Try.f7 rfl rfl rfl rfl rfl rfl rfl ⟨rfl, rfl, rfl, rfl, rfl⟩ rfl rfl rfl rfl rfl (by kernel_rfl) Try.func7 (by kernel_rfl)
    (of_decide_eq_true (by kernel_rfl)) (by unfold Func.isWrapper; first | (rw [if_pos (by decide +kernel)]; kernel_rfl) | (rw [if_neg (by decide +kernel)]; exact ⟨rfl, rfl⟩))
    (fun os started H enc _ => lifted os started H enc)

theorem proved : Rows.FnExactPowerOfSaid :=
  over
#print axioms proved
end Go.Proofs.Ytghmnhohdbombaa.fnExactPowerOf
