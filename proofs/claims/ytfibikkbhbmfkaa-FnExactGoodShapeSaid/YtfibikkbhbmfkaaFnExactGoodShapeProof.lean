/-
  At every shape the program's GoodShape answers what the specification's GoodShape answers, and writes into no argument.
-/
import Derived.Test.YtfibikkbhbmfkaaRows
import Derived.Test.YtfibikkbhbmfkaaImpl9
import Derived.Test.YtfibikkbhbmfkaaTo
import Derived.Test.YtfibikkbhbmfkaaOpen
import Derived.ChangeMaps
namespace Go.Proofs.Ytfibikkbhbmfkaa.fnExactGoodShape
open Go.ChangeShapes Go.WideShapes Go.ChangeAt Go.RowKit
set_option linter.unusedVariables false

theorem own : ownKnob Try.prog.godebug = none := by kernel_rfl

set_option maxRecDepth 100000 in
set_option maxHeartbeats 4000000 in
theorem walk (k x y a b : Int) (w : World) : Calls Try.prog 3 #[.agg #[.int .i64 k, .int .i64 x, .int .i64 y, .int .i64 a, .int .i64 b]] w fun e w' => e = .returned (.bool true) ∧ Kept w w' := by
  obtain ⟨J, hJ⟩ : ∃ j, decide (ShapeP (k, x, y, a, b)) = j := ⟨_, rfl⟩
  have HJ : Hid (decide (ShapeP (k, x, y, a, b)) = J) := hJ
  clear hJ
  go_enter Try.func3, Try.ntmps3
  repeat (first | go_values | go_skip | go_guarded | go_step | go_upon)
  (go_at_call 11; refine (toShape _ _ _ _ _ _).mono ?_; rintro e w1 ⟨rfl, k1⟩; have hck1 := Kept.cell_eq k1; have hfk1 := Kept.frozen_eq k1; have hzk1 := k1.size; (try simp at hzk1); have nk1 : w.heap.size < w1.heap.size := (by omega); have Kk1 : Kept w w1 := (But.trans (by (repeat (first | with_reducible exact But.refl _ _ _ | with_reducible apply But.drewN | with_reducible apply But.drew | with_reducible apply But.alloc))) k1); clear k1; dsimp only)
  repeat (first | go_values | go_skip | go_guarded | go_step | go_upon)
  (go_at_call 10; refine (sgood _ _ _ _ _ _).mono ?_; rw [HJ.out]; rintro e w2 ⟨rfl, k2⟩; have hck2 := Kept.cell_eq k2; have hfk2 := Kept.frozen_eq k2; have hzk2 := k2.size; (try simp at hzk2); have nk2 : w.heap.size < w2.heap.size := (by omega); have Kk2 : Kept w w2 := (But.trans (by (repeat (first | with_reducible exact Kk1 | with_reducible apply But.drewN | with_reducible apply But.drew | with_reducible apply But.alloc))) k2); clear k2; dsimp only)
  repeat (first | go_values | go_skip | go_guarded | go_step | go_upon)
  (go_at_call 11; refine (toShape _ _ _ _ _ _).mono ?_; rintro e w3 ⟨rfl, k3⟩; have hck3 := Kept.cell_eq k3; have hfk3 := Kept.frozen_eq k3; have hzk3 := k3.size; (try simp at hzk3); have nk3 : w.heap.size < w3.heap.size := (by omega); have Kk3 : Kept w w3 := (But.trans (by (repeat (first | with_reducible exact Kk2 | with_reducible apply But.drewN | with_reducible apply But.drew | with_reducible apply But.alloc))) k3); clear k3; dsimp only)
  repeat (first | go_values | go_skip | go_guarded | go_step | go_upon)
  (go_at_call 12; refine (igood _ _ _ _ _ _).mono ?_; rw [HJ.out]; rintro e w4 ⟨rfl, k4⟩; have hck4 := Kept.cell_eq k4; have hfk4 := Kept.frozen_eq k4; have hzk4 := k4.size; (try simp at hzk4); have nk4 : w.heap.size < w4.heap.size := (by omega); have Kk4 : Kept w w4 := (But.trans (by (repeat (first | with_reducible exact Kk3 | with_reducible apply But.drewN | with_reducible apply But.drew | with_reducible apply But.alloc))) k4); clear k4; dsimp only)
  repeat (first | go_values | go_skip | go_guarded | go_step | go_upon)
  go_ret
  exact ⟨rfl, by (repeat (first | with_reducible exact Kk4 | with_reducible apply But.drewN | with_reducible apply But.drew | with_reducible apply But.alloc))⟩

theorem all (p : ShapeD) (w : World) : Calls Try.prog 3 #[.agg (shapeC p).toArray] w fun e w' => e = .returned (.bool true) ∧ Kept w w' := by
  obtain ⟨k, x, y, a, b⟩ := p
  exact walk k x y a b w


set_option maxRecDepth 100000 in
theorem lifted (os : Os) (started : os.Started) (H : Type) (enc : TypeId × Value → H) :
    ReturnsInHanded {} Try.checked os 3 .any (Rows.fnExactGoodShapeSpec.pre6 enc Try.prog Try.f3 Rows.fnExactGoodShapeRow.domain false) (Rows.fnExactGoodShapeSpec.post enc Try.prog Try.f3 false true false false) := by
  refine returnsInHanded_of_change (C := Try.checked) own started (by kernel_rfl) Try.func3
    (ChangeSpec.witness6 (enc := enc) (C := Try.checked) false ⟨#[], #[.agg #[.int .i64 0, .int .i64 0, .int .i64 0, .int .i64 0, .int .i64 0]], []⟩ 8 (by kernel_rfl) (by kernel_rfl) (by kernel_rfl) (by kernel_rfl)) ?_
  intro W base args ds gs before hval0 hW hcnd _
  have hval : ∀ (j : Nat) t v, Try.f3.params[j]? = some t → args[j]? = some v → Value.okWide Try.prog W .any base t v := hval0
  have hW' := hW
  obtain ⟨p, q, hA0, hV, rfl, hfz, hnd⟩ := hW
  have hA : DataW.TrodAll enc Try.prog W 0 (fun _ => true) true Try.f3.params.toList args.toList ds p := hA0
  rw [Try.params3] at hA hval
  obtain ⟨v0, vs0, d0, ds0, p0, q0, hargs, rfl, rfl, h0, r0⟩ := trodAll_cons hA
  obtain ⟨rfl, rfl, rfl⟩ := trodAll_nil r0
  obtain rfl : args = #[v0] := by cases args; simp_all
  obtain ⟨rfl, rfl⟩ := trodVars_none hV
  obtain ⟨a0, e0⟩ := open_shapeV (hval 0 23 v0 rfl rfl) h0
  subst e0
  clear hA0 hval0
  simp only [List.append_nil] at hW'
  refine (all a0 W).mono fun e W' ⟨he, hg⟩ => ?_
  subst he
  exact ⟨_, rfl, post_of_kept (pa := _) (pv := []) hW' (fun _ _ _ => (trodAll_cons_mk (shut_bool Try.underlying4 _) trodAll_mk0)) (fun sp hsp => (trodAll_cons_mk (kept_trod (by kernel_rfl) (of_decide_eq_true (by kernel_rfl)) h0 hg (fun x hx => hW'.lt x (by simp [hx])) (fun x hx => hsp x (by simp [hx]))) trodAll_mk0)) (fun _ _ => rfl) hg⟩

theorem over : Rows.fnExactGoodShapeRow.holds Try.pinned (OpenSpec.ofChange Rows.fnExactGoodShapeSpec) :=
  OpenClaim.holds_of_wide 3 Try.f3 rfl rfl rfl rfl rfl rfl rfl ⟨rfl, rfl, rfl, rfl, rfl⟩ rfl rfl rfl rfl rfl (by kernel_rfl) Try.func3 (by kernel_rfl)
    (of_decide_eq_true (by kernel_rfl)) (by unfold Func.isWrapper; first | (rw [if_pos (by decide +kernel)]; kernel_rfl) | (rw [if_neg (by decide +kernel)]; exact ⟨rfl, rfl⟩))
    (fun os started H enc _ => lifted os started H enc)

theorem proved : Rows.FnExactGoodShapeSaid :=
  over
#print axioms proved
end Go.Proofs.Ytfibikkbhbmfkaa.fnExactGoodShape
