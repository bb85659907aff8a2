/-
  At every list of choices the program's BestChoice answers what the specification's BestChoice answers, and writes into no argument.
-/
import Derived.Test.YtjpceimaggcncaaRows
import Derived.Test.YtjpceimaggcncaaSBest
import Derived.Test.YtjpceimaggcncaaToC
import Derived.Test.YtjpceimaggcncaaEqC
import Derived.Test.YtjpceimaggcncaaSizeC
import Derived.Test.YtjpceimaggcncaaOpenC
import Derived.ChangeMaps
namespace Go.Proofs.Ytjpceimaggcncaa.fnExactBestChoice
open Go.ChangeShapes Go.WideShapes Go.ChangeAt Go.RowKit
set_option linter.unusedVariables false

theorem own : ownKnob Try.prog.godebug = none := by kernel_rfl

set_option maxRecDepth 100000 in
set_option maxHeartbeats 4000000 in
theorem walk (ps : List ChoiceE) (v : Value) (w : World) (hv : ChoiceAt w v ps) (hn : ps.length ≤ 9223372036854775807) (hf : ChoiceFit ps) (hl : choiceCost ps ≤ 1048576) :
    Calls Try.prog 9 #[v] w fun e w' => e = .returned (.bool true) ∧ Kept w w' := by
  have hlen : ps.length ≤ 1048576 := by unfold choiceCost at hl; omega
  have hone : ∀ p ∈ ps, p.1.size ≤ 1048576 ∧ p.2.1.2.length ≤ 1048576 := fun p hp => by
    obtain ⟨i, hi⟩ := List.mem_iff_getElem?.1 hp
    have := choiceSum_le hi
    unfold choiceCost at hl
    unfold choiceOne at this
    exact ⟨by omega, by omega⟩
  have hdl : decide ((1048576 : Int) - (choiceCost ps : Int) < 0) = false := by simp; omega
  obtain ⟨ao, cap, hfm⟩ := row_nil hv.1
  subst hfm
  obtain ⟨⟨J0, J1⟩, hJ⟩ : ∃ j, bestA (ps.map stripChoice) = j := ⟨_, rfl⟩
  have tr : ∀ ys : List ChoiceE, ys.map stripChoice = ps.map stripChoice → ys.length = ps.length ∧ ∀ p ∈ ys, p.1.size ≤ 1048576 ∧ p.2.1.2.length ≤ 1048576 := fun ys hy => by
    refine ⟨by have := congrArg List.length hy; simpa using this, fun p hp => ?_⟩
    have hm : stripChoice p ∈ ps.map stripChoice := by rw [← hy]; exact List.mem_map_of_mem hp
    obtain ⟨q, hq, he⟩ := List.mem_map.1 hm
    have := hone q hq
    simp only [stripChoice, Prod.mk.injEq] at he
    rw [he.1, he.2.1] at this
    exact this
  have HS : Hid (∀ (u : World) (x : Value) (ys : List ChoiceE), ys.map stripChoice = ps.map stripChoice → ChoiceAt u x ys → Calls Try.prog 34 #[x] u fun e u' => e = .returned (.tuple #[.int .i64 J0, .bool J1]) ∧ Kept u u') := fun u x ys hy h => by
    have := sBest ys x u h (by rw [(tr ys hy).1]; exact hlen) (tr ys hy).2
    rw [hy, hJ] at this
    exact this
  have HI : Hid (∀ (u : World) (x : Value) (ys : List ChoiceE), ys.map stripChoice = ps.map stripChoice → ChoiceAt u x ys → Calls Try.prog 36 #[x] u fun e u' => e = .returned (.tuple #[.int .i64 J0, .bool J1]) ∧ Kept u u') := fun u x ys hy h => by
    have := iBest ys x u h (by rw [(tr ys hy).1]; exact hlen) (tr ys hy).2
    rw [hy, hJ] at this
    exact this
  have HL : Hid (∀ ys : List ChoiceE, ys.map stripChoice = ps.map stripChoice → ys.length = ps.length) := fun ys hy => (tr ys hy).1
  have HT : Hid (∀ ys : List ChoiceE, ys.map stripChoice = ps.map stripChoice → ∀ p ∈ ys, p.2.1.2.length ≤ 9000000000000000000) := fun ys hy p hp => by have := ((tr ys hy).2 p hp).2; omega
  have HO : Hid (∀ p ∈ ps, p.2.1.2.length ≤ 1048576) := fun p hp => (hone p hp).2
  clear hJ tr hone
  go_enter Try.func9, Try.ntmps9
  repeat (first | go_values | go_skip | go_guarded | go_step | go_upon)
  go_at_call 33
  refine (szChoiceS ps _ _ _ hv (by omega) (by omega) hn hf).mono ?_
  rintro e u1 ⟨rfl, k1⟩
  rw [leftOf_yes (by omega)]
  dsimp only
  repeat (first | go_values | go_skip | go_guarded | go_step | go_upon)
  go_at_call 35
  refine (toChoiceS ps _ _ (hv.kept k1) hlen HO.out).mono ?_
  rintro e u2 ⟨v2, y2, rfl, s2, o2, k2⟩
  have K2 := k1.trans k2
  obtain ⟨ao2, cap2, hfm⟩ := o2.form
  subst hfm
  dsimp only
  repeat (first | go_values | go_skip | go_guarded | go_step | go_upon)
  go_at_call 34
  refine (HS.out _ _ _ s2 o2.at).mono ?_
  rintro e u3 ⟨rfl, k3⟩
  have K3 := K2.trans k3
  clear o2 k1 k2 k3 K2
  dsimp only
  repeat (first | go_values | go_skip | go_guarded | go_step | go_upon)
  go_at_call 35
  refine (toChoiceS ps _ _ (hv.kept K3) hlen HO.out).mono ?_
  rintro e u4 ⟨v4, y4, rfl, s4, o4, k4⟩
  have K4 := K3.trans k4
  obtain ⟨ao4, cap4, hfm⟩ := o4.form
  subst hfm
  dsimp only
  repeat (first | go_values | go_skip | go_guarded | go_step | go_upon)
  go_at_call 36
  refine (HI.out _ _ _ s4 o4.at).mono ?_
  rintro e u5 ⟨rfl, k5⟩
  have K5 := K4.trans k5
  have o4 := o4.kept k5
  clear k4 k5 K3 K4
  dsimp only
  repeat (first | go_values | go_skip | go_guarded | go_step | go_upon)
  go_at_call 35
  refine (toChoiceS ps _ _ (hv.kept K5) hlen HO.out).mono ?_
  rintro e u6 ⟨v6, y6, rfl, s6, o6, k6⟩
  have K6 := K5.trans k6
  have o4 := o4.kept k6
  obtain ⟨ao6, cap6, hfm⟩ := o6.form
  subst hfm
  dsimp only
  repeat (first | go_values | go_skip | go_guarded | go_step | go_upon)
  go_at_call 37
  refine (eqChoiceS y4 y6 _ _ _ (s4.trans s6.symm) o4.at o6.at (by have := HL.out y4 s4; omega) (HT.out y4 s4)).mono ?_
  rintro e u7 ⟨rfl, k7⟩
  have K7 := K6.trans k7
  dsimp only
  repeat (first | go_values | go_skip | go_guarded | go_step | go_upon)
  go_ret
  exact ⟨rfl, K7⟩

set_option maxRecDepth 100000 in
set_option maxHeartbeats 1000000 in
theorem big (ps : List ChoiceE) (v : Value) (w : World) (hv : ChoiceAt w v ps) (hn : ps.length ≤ 9223372036854775807) (hf : ChoiceFit ps) (hl : 1048576 < choiceCost ps) :
    Calls Try.prog 9 #[v] w fun e w' => e = .returned (.bool true) ∧ Kept w w' := by
  obtain ⟨ao, cap, hfm⟩ := row_nil hv.1
  subst hfm
  go_enter Try.func9, Try.ntmps9
  repeat (first | go_values | go_skip | go_guarded | go_step | go_upon)
  go_at_call 33
  refine (szChoiceS ps _ _ _ hv (by omega) (by omega) hn hf).mono ?_
  rintro e u1 ⟨rfl, k1⟩
  rw [leftOf_no (by omega)]
  dsimp only
  repeat (first | go_values | go_skip | go_guarded | go_step | go_upon)
  go_ret
  exact ⟨rfl, k1⟩

theorem all (ps : List ChoiceE) (v : Value) {w : World} (hv : ChoiceAt w v ps) (hf : ChoiceFit ps) (hn : ps.length ≤ maxLen) (_ : World) :
    Calls Try.prog 9 #[v] w fun e w' => e = .returned (.bool true) ∧ Kept w w' := by
  unfold maxLen at hn
  rcases Nat.lt_or_ge 1048576 (choiceCost ps) with h2 | h2
  · exact big ps v w hv (by omega) hf h2
  · exact walk ps v w hv (by omega) hf h2


set_option maxRecDepth 100000 in
theorem lifted (os : Os) (started : os.Started) (H : Type) (enc : TypeId × Value → H) :
    ReturnsInHanded {} Try.checked os 9 .any (Rows.fnExactBestChoiceSpec.pre6 enc Try.prog Try.f9 Rows.fnExactBestChoiceRow.domain false) (Rows.fnExactBestChoiceSpec.post enc Try.prog Try.f9 false true false false) := by
  refine returnsInHanded_of_change (C := Try.checked) own started (by kernel_rfl) Try.func9
    (ChangeSpec.witness6 (enc := enc) (C := Try.checked) false ⟨#[], #[.slice none 0 0], []⟩ 8 (by kernel_rfl) (by kernel_rfl) (by kernel_rfl) (by kernel_rfl)) ?_
  intro W base args ds gs before hval0 hW hcnd _
  have hval : ∀ (j : Nat) t v, Try.f9.params[j]? = some t → args[j]? = some v → Value.okWide Try.prog W .any base t v := hval0
  have hW' := hW
  obtain ⟨p, q, hA0, hV, rfl, hfz, hnd⟩ := hW
  have hA : DataW.TrodAll enc Try.prog W 0 (fun _ => true) true Try.f9.params.toList args.toList ds p := hA0
  rw [Try.params9] at hA hval
  obtain ⟨v0, vs0, d0, ds0, p0, q0, hargs, rfl, rfl, h0, r0⟩ := trodAll_cons hA
  obtain ⟨rfl, rfl, rfl⟩ := trodAll_nil r0
  obtain rfl : args = #[v0] := by cases args; simp_all
  obtain ⟨rfl, rfl⟩ := trodVars_none hV
  obtain ⟨l0, hv0, hq0, hl0⟩ := open_choiceS (hval 0 52 v0 rfl rfl) h0
  clear hA0 hval0
  simp only [List.append_nil] at hW'
  refine (all l0 v0 hv0 hq0 hl0 W).mono fun e W' ⟨he, hg⟩ => ?_
  subst he
  exact ⟨_, rfl, post_of_kept (pa := _) (pv := []) hW' (fun _ _ _ => (trodAll_cons_mk (shut_bool Try.underlying4 _) trodAll_mk0)) (fun sp hsp => (trodAll_cons_mk (kept_trod (by kernel_rfl) (of_decide_eq_true (by kernel_rfl)) h0 hg (fun x hx => hW'.lt x (by simp [hx])) (fun x hx => hsp x (by simp [hx]))) trodAll_mk0)) (fun _ _ => rfl) hg⟩

theorem over : Rows.fnExactBestChoiceRow.holds Try.pinned (OpenSpec.ofChange Rows.fnExactBestChoiceSpec) :=
  OpenClaim.holds_of_wide 9 Try.f9 rfl rfl rfl rfl rfl rfl rfl ⟨rfl, rfl, rfl, rfl, rfl⟩ rfl rfl rfl rfl rfl (by kernel_rfl) Try.func9 (by kernel_rfl)
    (of_decide_eq_true (by kernel_rfl)) (by unfold Func.isWrapper; first | (rw [if_pos (by decide +kernel)]; kernel_rfl) | (rw [if_neg (by decide +kernel)]; exact ⟨rfl, rfl⟩))
    (fun os started H enc _ => lifted os started H enc)

theorem proved : Rows.FnExactBestChoiceSaid :=
  over
#print axioms proved
end Go.Proofs.Ytjpceimaggcncaa.fnExactBestChoice
