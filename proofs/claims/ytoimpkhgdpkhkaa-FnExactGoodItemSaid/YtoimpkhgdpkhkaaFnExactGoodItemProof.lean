/-
  At every item the program's GoodItem answers what the specification's GoodItem answers.
-/
import Derived.Test.YtoimpkhgdpkhkaaRows
import Derived.Test.YtoimpkhgdpkhkaaItemT
import Derived.Test.YtoimpkhgdpkhkaaItemO
import Derived.Test.YtoimpkhgdpkhkaaItem20
import Derived.ChangeMaps
namespace Go.Proofs.Ytoimpkhgdpkhkaa.fnExactGoodItem
open Go.ChangeShapes Go.WideShapes Go.ChangeAt Go.RowKit
set_option linter.unusedVariables false

theorem own : ownKnob Try.prog.godebug = none := by kernel_rfl

set_option maxRecDepth 100000 in
set_option maxHeartbeats 8000000 in
theorem all (p : ItemD) {w : World} (w' : World) (_ : w' = w) :
    Calls Try.prog 3 #[.agg (itemC p).toArray] w fun e w' => e = .returned (.bool true) ∧ Kept w w' := by
  obtain ⟨f0, f1, f2, f3, f4, f5, f6, f7, f8⟩ := p
  simp only [itemC, List.toArray]
  obtain ⟨J, hJ⟩ : ∃ J : Bool, decide (ItemP (f0, f1, f2, f3, f4, f5, f6, f7, f8)) = J := ⟨_, rfl⟩
  have HJ : Hid (decide (ItemP (f0, f1, f2, f3, f4, f5, f6, f7, f8)) = J) := hJ
  clear hJ
  go_enter Try.func3, Try.ntmps3
  repeat (first | go_values | go_skip | go_guarded | go_step | go_upon)
  go_at_call 10
  refine (toItem _ _ _ _ _ _ _ _ _ _).mono ?_
  rintro e u1 ⟨rfl, k1⟩
  have K1 : Kept w u1 := ((But.refl _ _ _).alloc _).trans k1
  have La := (Loc.new w [.int .i64 f0, .int .i64 f1, .int .i64 f2, .int .i64 f3, .bool f4, .int .i64 f5, .int .i64 f6, .int .i64 f7, .int .i64 f8] 25).kept k1
  dsimp only
  repeat (first | go_values | go_skip | go_guarded | go_step | go_upon)
  go_at_call 9
  refine (sitem _ _ _ _ _ _ _ _ _ _).mono ?_
  rintro e u2 ⟨rfl, k2⟩
  rw [HJ.out]
  have K2 := K1.trans k2
  have La := La.kept k2
  have a0 := La.cell 0 rfl
  have a1 := La.cell 1 rfl
  have a2 := La.cell 2 rfl
  have a3 := La.cell 3 rfl
  have a4 := La.cell 4 rfl
  have a5 := La.cell 5 rfl
  have a6 := La.cell 6 rfl
  have a7 := La.cell 7 rfl
  have a8 := La.cell 8 rfl
  have al := La.lt
  dsimp only
  repeat (first | go_values | go_skip | go_guarded | go_step | go_upon)
  go_at_call 10
  refine (toItem _ _ _ _ _ _ _ _ _ _).mono ?_
  rintro e u3 ⟨rfl, k3⟩
  have K3 := K2.trans k3
  clear a0 a1 a2 a3 a4 a5 a6 a7 a8 al
  dsimp only
  repeat (first | go_values | go_skip | go_guarded | go_step | go_upon)
  go_at_call 11
  refine (iitem _ _ _ _ _ _ _ _ _ _).mono ?_
  rintro e u4 ⟨rfl, k4⟩
  rw [HJ.out]
  have K4 := K3.trans k4
  dsimp only
  repeat (first | go_values | go_skip | go_guarded | go_step | go_upon)
  go_ret
  exact ⟨rfl, K4⟩


set_option maxRecDepth 100000 in
theorem lifted (os : Os) (started : os.Started) (H : Type) (enc : TypeId × Value → H) :
    ReturnsInHanded {} Try.checked os 3 .any (Rows.fnExactGoodItemSpec.pre6 enc Try.prog Try.f3 Rows.fnExactGoodItemRow.domain false) (Rows.fnExactGoodItemSpec.post enc Try.prog Try.f3 false true false false) := by
  refine returnsInHanded_of_change (C := Try.checked) own started (by kernel_rfl) Try.func3
    (ChangeSpec.witness6 (enc := enc) (C := Try.checked) false ⟨#[], #[.agg #[.int .i64 0, .int .i64 0, .int .i64 0, .int .i64 0, .bool false, .int .i64 0, .int .i64 0, .int .i64 0, .int .i64 0]], []⟩ 8 (by kernel_rfl) (by kernel_rfl) (by kernel_rfl) (by kernel_rfl)) ?_
  intro W base args ds gs before hval0 hW hcnd _
  have hval : ∀ (j : Nat) t v, Try.f3.params[j]? = some t → args[j]? = some v → Value.okWide Try.prog W .any base t v := hval0
  have hW' := hW
  obtain ⟨p, q, hA0, hV, rfl, hfz, hnd⟩ := hW
  have hA : DataW.TrodAll enc Try.prog W 0 (fun _ => true) true Try.f3.params.toList args.toList ds p := hA0
  rw [Try.params3] at hA hval
  obtain ⟨v0, vs0, d0, ds0, p0, q0, hargs, rfl, rfl, h0, r0⟩ := trodAll_cons hA
  obtain ⟨rfl, rfl, rfl⟩ := trodAll_nil r0
  obtain rfl : args = #[v0] := by cases args; simp_all
  obtain ⟨rfl, rfl⟩ := trodVars_none hV
  obtain ⟨a0, e0⟩ := open_itemV (hval 0 25 v0 rfl rfl) h0
  subst e0
  clear hA0 hval0
  simp only [List.append_nil] at hW'
  refine (all a0 W rfl).mono fun e W' ⟨he, hg⟩ => ?_
  subst he
  exact ⟨_, rfl, post_of_kept (pa := _) (pv := []) hW' (fun _ _ _ => (trodAll_cons_mk (shut_bool Try.underlying4 _) trodAll_mk0)) (fun sp hsp => (trodAll_cons_mk (kept_trod (by kernel_rfl) (of_decide_eq_true (by kernel_rfl)) h0 hg (fun x hx => hW'.lt x (by simp [hx])) (fun x hx => hsp x (by simp [hx]))) trodAll_mk0)) (fun _ _ => rfl) hg⟩

theorem over : Rows.fnExactGoodItemRow.holds Try.pinned (OpenSpec.ofChange Rows.fnExactGoodItemSpec) :=
  OpenClaim.holds_of_wide 3 Try.f3 rfl rfl rfl rfl rfl rfl rfl ⟨rfl, rfl, rfl, rfl, rfl⟩ rfl rfl rfl rfl rfl (by kernel_rfl) Try.func3 (by kernel_rfl)
    (of_decide_eq_true (by kernel_rfl)) (by unfold Func.isWrapper; first | (rw [if_pos (by decide +kernel)]; kernel_rfl) | (rw [if_neg (by decide +kernel)]; exact ⟨rfl, rfl⟩))
    (fun os started H enc _ => lifted os started H enc)

theorem proved : Rows.FnExactGoodItemSaid :=
  over
#print axioms proved
end Go.Proofs.Ytoimpkhgdpkhkaa.fnExactGoodItem
