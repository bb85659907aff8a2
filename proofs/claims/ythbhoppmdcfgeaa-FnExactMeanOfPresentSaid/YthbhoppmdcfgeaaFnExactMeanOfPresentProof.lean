/-
  At every row of floats the program's MeanOfPresent answers what the specification's MeanOfPresent answers.
-/
import Derived.Test.YthbhoppmdcfgeaaRows
import Derived.Test.YthbhoppmdcfgeaaMean
import Derived.Test.YthbhoppmdcfgeaaOpenF
import Derived.WalkKit
import Derived.ProofKit
import Derived.OpenShut
namespace Go.Proofs.Ythbhoppmdcfgeaa.fnExactMeanOfPresent
open Go.ChangeShapes Go.WideShapes Go.ChangeAt Go.RowKit
set_option linter.unusedVariables false

theorem own : ownKnob Try.prog.godebug = none := by kernel_rfl

set_option maxHeartbeats 2000000 in
theorem walk (ao : Option Addr) (cap : Nat) (xs : List Nat) (w : World) (hm : xs.length ≤ maxLen) (hr : FRow w ao xs) (hx : Wide xs) :
    Calls Try.prog 6 #[.slice ao xs.length cap] w fun e w' => e = .returned (.bool true) ∧ Kept w w' := by
  by_cases hl : xs.length ≤ 1048576
  · go_enter Try.func6, Try.ntmps6
    go_wp2_with fail
    go_at_call 23; refine (copyS ao cap xs _ hr hl).mono ?_; rintro e w1 ⟨rfl, hr1, hk1⟩
    go_wp2_with fail
    go_at_call 26; refine (specMean _ _ xs _ hr1 hx hl).mono ?_; rintro e w2 ⟨⟨r, rfl, hq⟩, hk2'⟩
    have hk2 : Kept w w2 := hk1.trans hk2'
    go_wp2_with fail
    go_at_call 23; refine (copyS ao cap xs _ (hk2.frow hr) hl).mono ?_; rintro e w3 ⟨rfl, hr3, hk3⟩
    go_wp2_with fail
    go_at_call 27; refine (implMean _ _ xs _ hr3 hx hl).mono ?_; rintro e w4 ⟨⟨q, rfl, hq'⟩, hk4'⟩
    go_wp2_with fail
    go_at_call 24; refine (sameFloat _ _ (hq'.trans hq.symm) _).mono ?_; rintro e w5 ⟨rfl, rfl⟩
    have hk4 : Kept w w5 := (hk2.trans hk3).trans hk4'
    have hr4 := hk4'.frow hr3
    go_wp2_with fail
    go_at_call 23; refine (copyS ao cap xs _ (hk4.frow hr) hl).mono ?_; rintro e w6 ⟨rfl, hr6, hk6⟩
    go_wp2_with fail
    go_at_call 25; refine (eqS _ _ _ _ xs _ (hk6.frow hr4) hr6 hl).mono ?_; rintro e w7 ⟨rfl, n7, rfl⟩
    go_wp2
    go_ret
    exact ⟨rfl, (hk4.trans hk6).drewN n7⟩
  · have hm' : xs.length ≤ 9223372036854775807 := hm
    go_enter Try.func6, Try.ntmps6
    go_wp2
    go_ret
    exact ⟨rfl, Kept.refl w⟩

set_option maxRecDepth 100000 in
theorem lifted (os : Os) (started : os.Started) (H : Type) (enc : TypeId × Value → H) :
    ReturnsInHanded {} Try.checked os 6 .any (Rows.fnExactMeanOfPresentSpec.pre6 enc Try.prog Try.f6 Rows.fnExactMeanOfPresentRow.domain false) (Rows.fnExactMeanOfPresentSpec.post enc Try.prog Try.f6 false true false false) := by
  refine returnsInHanded_of_change (C := Try.checked) own started (by kernel_rfl) Try.func6
    (ChangeSpec.witness6 (enc := enc) (C := Try.checked) false ⟨#[], #[.slice none 0 0], []⟩ 8 (by kernel_rfl) (by kernel_rfl) (by kernel_rfl) (by kernel_rfl)) ?_
  intro W base args ds gs before hval0 hW hcnd _
  have hval : ∀ (j : Nat) t v, Try.f6.params[j]? = some t → args[j]? = some v → Value.okWide Try.prog W .any base t v := hval0
  have hW' := hW
  obtain ⟨p, q, hA0, hV, rfl, hfz, hnd⟩ := hW
  have hA : DataW.TrodAll enc Try.prog W 0 (fun _ => true) true Try.f6.params.toList args.toList ds p := hA0
  rw [Try.params6] at hA hval
  obtain ⟨v0, vs0, d0, ds0, p0, q0, hargs, rfl, rfl, h0, r0⟩ := trodAll_cons hA
  obtain ⟨rfl, rfl, rfl⟩ := trodAll_nil r0
  obtain rfl : args = #[v0] := by cases args; simp_all
  obtain ⟨rfl, rfl⟩ := trodVars_none hV
  obtain ⟨ao, cap, xs, rfl, hm, hr, hx⟩ := frow_of (hval 0 23 v0 rfl rfl) h0
  clear hA0 hval0
  simp only [List.append_nil] at hW'
  refine (walk ao cap xs W hm hr hx).mono fun e W' ⟨he, hg⟩ => ?_
  subst he
  exact ⟨_, rfl, post_of_kept (pa := p0 ++ []) (pv := []) hW' (fun _ _ _ => (trodAll_cons_mk (shut_bool Try.underlying4 _) trodAll_mk0)) (fun sp hsp => (trodAll_cons_mk (kept_trod (by kernel_rfl) (of_decide_eq_true (by kernel_rfl)) h0 hg (fun x hx => hW'.lt x hx) (fun x hx => hsp x hx)) trodAll_mk0)) (fun _ _ => rfl) hg⟩

theorem over : Rows.fnExactMeanOfPresentRow.holds Try.pinned (OpenSpec.ofChange Rows.fnExactMeanOfPresentSpec) :=
  OpenClaim.holds_of_wide 6 Try.f6 rfl rfl rfl rfl rfl rfl rfl ⟨rfl, rfl, rfl, rfl, rfl⟩ rfl rfl rfl rfl rfl (by kernel_rfl) Try.func6 (by kernel_rfl)
    (of_decide_eq_true (by kernel_rfl)) (by unfold Func.isWrapper; first | (rw [if_pos (by decide +kernel)]; kernel_rfl) | (rw [if_neg (by decide +kernel)]; exact ⟨rfl, rfl⟩))
    (fun os started H enc _ => lifted os started H enc)

theorem proved : Rows.FnExactMeanOfPresentSaid :=
  over
#print axioms proved
end Go.Proofs.Ythbhoppmdcfgeaa.fnExactMeanOfPresent
