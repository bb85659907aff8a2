/-
  The program's NewWorld answers what the specification's NewWorld answers, and its answer owns its memory.
-/
import Derived.Test.YtefiaefjldfbjaaRows
import Derived.Test.YtefiaefjldfbjaaTick
import Derived.ChangeMaps
namespace Go.Proofs.Ytefiaefjldfbjaa.fnExactNewWorld
open Go.ChangeShapes Go.WideShapes Go.ChangeAt Go.RowKit
set_option linter.unusedVariables false

theorem own : ownKnob Try.prog.godebug = none := by kernel_rfl

def DN : WD := (1, 0, [])
theorem wo_new (w : World) (lo hi : Nat) : WO w lo hi (.agg #[.int .i64 1, .int .i64 0, .slice none 0 0]) DN :=
  ⟨_, [], rfl, ⟨⟨World.ownsRow_nil _ _ _ _, fun g hg => by simp [Value.ownBlock] at hg⟩, fun i z hz => by simp at hz, fun i j z z' _ hz => by simp at hz⟩, rfl⟩
theorem specNew (w : World) : Calls Try.prog 19 #[] w fun e w' => e = .returned (.agg #[.int .i64 1, .int .i64 0, .slice none 0 0]) ∧ Kept w w' := by
  go_enter Try.func19, Try.ntmps19
  go_wp2
  refine bodyPost_ret (v := .agg #[.int .i64 1, .int .i64 0, .slice none 0 0]) (by simp [results, Try.results19, go_sem]) rfl ?_
  exact ⟨rfl, (But.refl _ _ _).alloc _⟩
theorem implNew (w : World) : Calls Try.prog 20 #[] w fun e w' => e = .returned (.agg #[.int .i64 1, .int .i64 0, .slice none 0 0]) ∧ Kept w w' := by
  go_enter Try.func20, Try.ntmps20
  go_wp2
  refine bodyPost_ret (v := .agg #[.int .i64 1, .int .i64 0, .slice none 0 0]) (by simp [results, Try.results20, go_sem]) rfl ?_
  exact ⟨rfl, (But.refl _ _ _).alloc _⟩

theorem smallN : Small DN.2.2 := ⟨by simp [DN], by simp [DN]⟩
theorem eqNew (w : World) : Calls Try.prog 21 #[.agg #[.int .i64 1, .int .i64 0, .slice none 0 0], .agg #[.int .i64 1, .int .i64 0, .slice none 0 0]] w fun e w' => e = .returned (.bool true) ∧ Kept w w' :=
  eqWorld DN _ _ w (wo_new w 0 0).at (wo_new w 0 0).at smallN
theorem markNew (w : World) : Calls Try.prog 22 #[.agg #[.int .i64 1, .int .i64 0, .slice none 0 0], .int .i64 1] w fun e w' => e = .returned (.int .i64 1) ∧ Kept w w' := by
  refine (markWorld DN _ 1 0 0 w (wo_new w 0 0) (by simp [DN, kcnt])).mono ?_
  rintro e w' ⟨rfl, _, k⟩
  exact ⟨rfl, k⟩
theorem heldNew (w : World) : Calls Try.prog 23 #[.agg #[.int .i64 1, .int .i64 0, .slice none 0 0], .int .i64 1] w fun e w' => e = .returned (.int .i64 1) ∧ Kept w w' := by
  refine (heldWorld DN _ 1 w (wo_new w 0 0).at (by simp [DN, kcnt])).mono ?_
  rintro e w' ⟨rfl, k⟩
  exact ⟨rfl, k⟩

set_option maxHeartbeats 4000000 in
theorem all (w : World) : Calls Try.prog 4 #[] w fun e w' => e = .returned (.bool true) ∧ Kept w w' := by
  go_enter Try.func4, Try.ntmps4
  go_wp2_with fail
  go_at_call 19; refine (specNew _).mono ?_; rintro e u1 ⟨rfl, k1⟩
  go_wp2_with fail
  go_at_call 20; refine (implNew _).mono ?_; rintro e u2 ⟨rfl, k2⟩
  have Lw := (Loc.new u1 [.int .i64 1, .int .i64 0, .slice none 0 0] 25).kept k2
  have K2 : Kept w u2 := (k1.alloc _).trans k2
  have b0 := Lw.cell 0 rfl
  have b1 := Lw.cell 1 rfl
  have b2 := Lw.cell 2 rfl
  have hlt := Lw.lt
  go_wp2_with fail
  go_at_call 21; refine (eqNew _).mono ?_; rintro e u3 ⟨rfl, k3⟩
  have Lg := (Loc.new u2 [.int .i64 1, .int .i64 0, .slice none 0 0] 25).kept k3
  have Lw := (Lw.alloc _).kept k3
  have K3 : Kept w u3 := (K2.alloc _).trans k3
  clear b0 b1 b2 hlt
  have c0 := Lg.cell 0 rfl
  have c1 := Lg.cell 1 rfl
  have c2 := Lg.cell 2 rfl
  go_wp2_with fail
  go_at_call 22; refine (markNew _).mono ?_; rintro e u4 ⟨rfl, k4⟩
  have Lg := Lg.kept k4
  have Lw := Lw.kept k4
  have K4 := K3.trans k4
  clear c0 c1 c2
  have c0 := Lg.cell 0 rfl
  have c1 := Lg.cell 1 rfl
  have c2 := Lg.cell 2 rfl
  go_wp2_with fail
  go_at_call 23; refine (heldNew _).mono ?_; rintro e u5 ⟨rfl, k5⟩
  have Lg := Lg.kept k5
  have Lw := Lw.kept k5
  have K5 := K4.trans k5
  clear c0 c1 c2
  go_wp2_with fail
  go_at_call 20; refine (implNew _).mono ?_; rintro e u6 ⟨rfl, k6⟩
  have Lg := Lg.kept k6
  have Lw := Lw.kept k6
  have K6 := K5.trans k6
  have b0 := Lw.cell 0 rfl
  have b1 := Lw.cell 1 rfl
  have b2 := Lw.cell 2 rfl
  have hlt := Lw.lt
  go_wp2_with fail
  go_at_call 21; refine (eqNew _).mono ?_; rintro e u7 ⟨rfl, k7⟩
  have Lg := (Lg.alloc _).kept k7
  have K7 : Kept w u7 := (K6.alloc _).trans k7
  have c0 := Lg.cell 0 rfl
  have c1 := Lg.cell 1 rfl
  have c2 := Lg.cell 2 rfl
  go_wp2_with fail
  go_at_call 23; refine (heldNew _).mono ?_; rintro e u8 ⟨rfl, k8⟩
  have K8 := K7.trans k8
  go_wp2
  go_ret
  exact ⟨rfl, K8⟩


set_option maxRecDepth 100000 in
theorem lifted (os : Os) (started : os.Started) (H : Type) (enc : TypeId × Value → H) :
    ReturnsInHanded {} Try.checked os 4 .any (Rows.fnExactNewWorldSpec.pre6 enc Try.prog Try.f4 Rows.fnExactNewWorldRow.domain false) (Rows.fnExactNewWorldSpec.post enc Try.prog Try.f4 false true false false) := by
  refine returnsInHanded_of_change (C := Try.checked) own started (by kernel_rfl) Try.func4
    (ChangeSpec.witness6 (enc := enc) (C := Try.checked) false ⟨#[], #[], []⟩ 8 (by kernel_rfl) (by kernel_rfl) (by kernel_rfl) (by kernel_rfl)) ?_
  intro W base args ds gs before hval0 hW hcnd _
  have hval : ∀ (j : Nat) t v, Try.f4.params[j]? = some t → args[j]? = some v → Value.okWide Try.prog W .any base t v := hval0
  have hW' := hW
  obtain ⟨p, q, hA0, hV, rfl, hfz, hnd⟩ := hW
  have hA : DataW.TrodAll enc Try.prog W 0 (fun _ => true) true Try.f4.params.toList args.toList ds p := hA0
  rw [Try.params4] at hA hval
  obtain ⟨hargs, rfl, rfl⟩ := trodAll_nil hA
  obtain rfl : args = #[] := by cases args; simp_all
  obtain ⟨rfl, rfl⟩ := trodVars_none hV

  clear hA0 hval0
  simp only [List.append_nil] at hW'
  refine (all W).mono fun e W' ⟨he, hg⟩ => ?_
  subst he
  exact ⟨_, rfl, post_of_kept (pa := _) (pv := []) hW' (fun _ _ _ => (trodAll_cons_mk (shut_bool Try.underlying4 _) trodAll_mk0)) (fun sp hsp => trodAll_mk0) (fun _ _ => rfl) hg⟩

theorem over : Rows.fnExactNewWorldRow.holds Try.pinned (OpenSpec.ofChange Rows.fnExactNewWorldSpec) :=
  OpenClaim.holds_of_wide 4 Try.f4 rfl rfl rfl rfl rfl rfl rfl ⟨rfl, rfl, rfl, rfl, rfl⟩ rfl rfl rfl rfl rfl (by kernel_rfl) Try.func4 (by kernel_rfl)
    (of_decide_eq_true (by kernel_rfl)) (by unfold Func.isWrapper; first | (rw [if_pos (by decide +kernel)]; kernel_rfl) | (rw [if_neg (by decide +kernel)]; exact ⟨rfl, rfl⟩))
    (fun os started H enc _ => lifted os started H enc)

theorem proved : Rows.FnExactNewWorldSaid :=
  over
#print axioms proved
end Go.Proofs.Ytefiaefjldfbjaa.fnExactNewWorld
