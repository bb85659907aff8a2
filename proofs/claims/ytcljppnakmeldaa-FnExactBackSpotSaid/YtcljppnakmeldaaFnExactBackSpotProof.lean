/-
  At every spot the program's BackSpot answers what the specification's BackSpot answers, and writes into no argument.
-/
import Derived.Test.YtcljppnakmeldaaRows
import Derived.Test.YtcljppnakmeldaaSpotLaw
import Derived.Test.YtcljppnakmeldaaOpen
import Derived.ChangeMaps
namespace Go.Proofs.Ytcljppnakmeldaa.fnExactBackSpot
open Go.ChangeShapes Go.WideShapes Go.ChangeAt Go.RowKit
set_option linter.unusedVariables false

theorem own : ownKnob Try.prog.godebug = none := by kernel_rfl

set_option maxRecDepth 100000 in
set_option maxHeartbeats 8000000 in
theorem walk (ax ay at' : Int) (af : Bool) (w : World) : Calls Try.prog 7 #[.agg #[.int .i64 ax, .int .i64 ay, .int .i64 at', .bool af]] w fun e w' => e = .returned (.bool true) ∧ Kept w w' := by
  obtain ⟨⟨⟨jx, jy, jt, jf⟩, jb⟩, hJ⟩ : ∃ j, backA (ax, ay, at', af) = j := ⟨_, rfl⟩
  have hS := specBackSpot (ax, ay, at', af)
  have hI := implBack (ax, ay, at', af)
  rw [hJ] at hS hI
  dsimp only at hS hI
  have HS : Hid _ := hS
  have HI : Hid _ := hI
  clear hS hI hJ
  go_enter Try.func7, Try.ntmps7
  repeat (first | (go_at_call 28; refine (toSpotX _ _ _ _ _).mono ?_; rintro e w' ⟨rfl, rfl⟩; dsimp only) | go_values | go_skip | go_guarded | go_step | go_upon)
  go_at_call 14
  refine (HS.out _).mono ?_
  rintro e w1 ⟨rfl, k1⟩
  have hc1 := k1.cell_eq
  have hf1 := k1.frozen_eq
  have hz1 := k1.size
  simp at hz1
  have n0 : w.heap.size < w1.heap.size := by omega
  have KW1 : Kept w w1 := But.trans (by (repeat (first | with_reducible exact But.refl _ _ _ | with_reducible apply But.drewN | with_reducible apply But.drew | with_reducible apply But.alloc | (with_reducible refine But.setNew ?_ (by simp +arith) _)))) k1
  dsimp only
  repeat (first | (go_at_call 28; refine (toSpotX _ _ _ _ _).mono ?_; rintro e w' ⟨rfl, rfl⟩; dsimp only) | go_values | go_skip | go_guarded | go_step | go_upon)
  go_at_call 13
  refine (HI.out _).mono ?_
  rintro e w2 ⟨rfl, k2⟩
  have hc2 := k2.cell_eq
  have hf2 := k2.frozen_eq
  have hz2 := k2.size
  simp at hz2
  have n1 : w1.heap.size < w2.heap.size := by omega
  have KW2 : Kept w w2 := But.trans (by (repeat (first | with_reducible exact KW1 | with_reducible apply But.drewN | with_reducible apply But.drew | with_reducible apply But.alloc | (with_reducible refine But.setNew ?_ (by simp +arith) _)))) k2
  dsimp only
  repeat (first | go_values | go_skip | go_guarded | go_step | go_upon)
  go_at_call 26
  refine (eqSpot _ _ _ _ _).mono ?_
  rintro e w3 ⟨rfl, k3⟩
  dsimp only
  go_wp2
  go_ret
  refine ⟨rfl, But.trans ?_ k3⟩
  (repeat (first | with_reducible exact KW2 | with_reducible apply But.drewN | with_reducible apply But.drew | with_reducible apply But.alloc | (with_reducible refine But.setNew ?_ (by simp +arith) _)))

theorem all (a : SpotD) (w : World) : Calls Try.prog 7 #[.agg (spotC a).toArray] w fun e w' => e = .returned (.bool true) ∧ Kept w w' := walk _ _ _ _ w


set_option maxRecDepth 100000 in
theorem lifted (os : Os) (started : os.Started) (H : Type) (enc : TypeId × Value → H) :
    ReturnsInHanded {} Try.checked os 7 .any (Rows.fnExactBackSpotSpec.pre6 enc Try.prog Try.f7 Rows.fnExactBackSpotRow.domain false) (Rows.fnExactBackSpotSpec.post enc Try.prog Try.f7 false true false false) := by
  refine returnsInHanded_of_change (C := Try.checked) own started (by kernel_rfl) Try.func7
    (ChangeSpec.witness6 (enc := enc) (C := Try.checked) false ⟨#[], #[.agg #[.int .i64 0, .int .i64 0, .int .i64 0, .bool false]], []⟩ 8 (by kernel_rfl) (by kernel_rfl) (by kernel_rfl) (by kernel_rfl)) ?_
  intro W base args ds gs before hval0 hW hcnd _
  have hval : ∀ (j : Nat) t v, Try.f7.params[j]? = some t → args[j]? = some v → Value.okWide Try.prog W .any base t v := hval0
  have hW' := hW
  obtain ⟨p, q, hA0, hV, rfl, hfz, hnd⟩ := hW
  have hA : DataW.TrodAll enc Try.prog W 0 (fun _ => true) true Try.f7.params.toList args.toList ds p := hA0
  rw [Try.params7] at hA hval
  obtain ⟨v0, vs0, d0, ds0, p0, q0, hargs, rfl, rfl, h0, r0⟩ := trodAll_cons hA
  obtain ⟨rfl, rfl, rfl⟩ := trodAll_nil r0
  obtain rfl : args = #[v0] := by cases args; simp_all
  obtain ⟨rfl, rfl⟩ := trodVars_none hV
  obtain ⟨a0, e0⟩ := open_spotV (hval 0 46 v0 rfl rfl) h0
  subst e0
  clear hA0 hval0
  simp only [List.append_nil] at hW'
  refine (all a0 W).mono fun e W' ⟨he, hg⟩ => ?_
  subst he
  exact ⟨_, rfl, post_of_kept (pa := _) (pv := []) hW' (fun _ _ _ => (trodAll_cons_mk (shut_bool Try.underlying4 _) trodAll_mk0)) (fun sp hsp => (trodAll_cons_mk (kept_trod (by kernel_rfl) (of_decide_eq_true (by kernel_rfl)) h0 hg (fun x hx => hW'.lt x (by simp [hx])) (fun x hx => hsp x (by simp [hx]))) trodAll_mk0)) (fun _ _ => rfl) hg⟩

theorem over : Rows.fnExactBackSpotRow.holds Try.pinned (OpenSpec.ofChange Rows.fnExactBackSpotSpec) :=
  OpenClaim.holds_of_wide 7 Try.f7 rfl rfl rfl rfl rfl rfl rfl ⟨rfl, rfl, rfl, rfl, rfl⟩ rfl rfl rfl rfl rfl (by kernel_rfl) Try.func7 (by kernel_rfl)
    (of_decide_eq_true (by kernel_rfl)) (by unfold Func.isWrapper; first | (rw [if_pos (by decide +kernel)]; kernel_rfl) | (rw [if_neg (by decide +kernel)]; exact ⟨rfl, rfl⟩))
    (fun os started H enc _ => lifted os started H enc)

theorem proved : Rows.FnExactBackSpotSaid :=
  over
#print axioms proved
end Go.Proofs.Ytcljppnakmeldaa.fnExactBackSpot
