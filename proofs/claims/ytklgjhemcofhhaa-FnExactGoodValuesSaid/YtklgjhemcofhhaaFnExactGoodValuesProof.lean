/-
  At every list of values the program's GoodValues answers what the specification's GoodValues answers, and writes into no argument.
-/
import Derived.Test.YtklgjhemcofhhaaRows
import Derived.Test.YtklgjhemcofhhaaValF
import Derived.Test.YtklgjhemcofhhaaValO
import Derived.Test.YtklgjhemcofhhaaSGood22
import Derived.Test.YtklgjhemcofhhaaIGood22
import Derived.ChangeMaps
namespace Go.Proofs.Ytklgjhemcofhhaa.fnExactGoodValues
open Go.ChangeShapes Go.WideShapes Go.ChangeAt Go.RowKit
set_option linter.unusedVariables false

theorem own : ownKnob Try.prog.godebug = none := by kernel_rfl

set_option maxRecDepth 100000 in
set_option maxHeartbeats 8000000 in
theorem walk (l : List ValD) (J : Bool) (v : Value) (w : World) (hv : ValAt w v l) (hs9 : ∀ p ∈ l, p.1.size ≤ 9223372036854775807 ∧ p.2.2.size ≤ 9223372036854775807) (hl : valCost l ≤ 1048576)
    (hS : ∀ (u : World) (v : Value), ValAt u v l → Calls Try.prog 7 #[v] u fun e u' => e = .returned (.bool J) ∧ Kept u u')
    (hI : ∀ (u : World) (v : Value), ValAt u v l → Calls Try.prog 9 #[v] u fun e u' => e = .returned (.bool J) ∧ Kept u u') :
    Calls Try.prog 3 #[v] w fun e w' => e = .returned (.bool true) ∧ Kept w w' := by
  have hn : l.length ≤ 1048576 := by unfold valCost at hl; omega
  have hd1 : decide ((1048576 : Int) - (valCost l : Int) < 0) = false := by simp; omega
  obtain ⟨ao, cap, hfm⟩ := row_nil hv
  subst hfm
  have HS : Hid _ := hS
  have HI : Hid _ := hI
  clear hS hI
  go_enter Try.func3, Try.ntmps3
  repeat (first | go_values | go_skip | go_guarded | go_step | go_upon)
  go_at_call 6
  refine (szValS l _ _ _ hv (by omega) (by omega) (by omega) hs9).mono ?_
  rintro e u1 ⟨rfl, k1⟩
  rw [leftOf_yes (by omega)]
  have K1 := k1
  have s1 := k1.size
  clear k1
  dsimp only
  repeat (first | go_values | go_skip | go_guarded | go_step | go_upon)
  go_at_call 8
  refine (toValS l _ _ (hv.kept K1) hn).mono ?_
  rintro e u2 ⟨v2, rfl, t1, k2⟩
  have K2 := K1.trans k2
  have s2 := k2.size
  clear k2 K1
  obtain ⟨ao2, cap2, hfm⟩ := t1.form
  subst hfm
  dsimp only
  repeat (first | go_values | go_skip | go_guarded | go_step | go_upon)
  go_at_call 7
  refine (HS.out _ _ t1.at).mono ?_
  rintro e u3 ⟨rfl, k3⟩
  have K3 := K2.trans k3
  have t1 := t1.kept k3
  have s3 := k3.size
  clear k3 K2
  clear t1
  dsimp only
  repeat (first | go_values | go_skip | go_guarded | go_step | go_upon)
  go_at_call 8
  refine (toValS l _ _ (hv.kept K3) hn).mono ?_
  rintro e u4 ⟨v4, rfl, x0, k4⟩
  have K4 := K3.trans k4
  have s4 := k4.size
  clear k4 K3
  obtain ⟨ao4, cap4, hfm⟩ := x0.form
  subst hfm
  dsimp only
  repeat (first | go_values | go_skip | go_guarded | go_step | go_upon)
  go_at_call 9
  refine (HI.out _ _ x0.at).mono ?_
  rintro e u5 ⟨rfl, k5⟩
  have K5 := K4.trans k5
  have x0 := x0.kept k5
  have s5 := k5.size
  clear k5 K4
  dsimp only
  repeat (first | go_values | go_skip | go_guarded | go_step | go_upon)
  go_at_call 8
  refine (toValS l _ _ (hv.kept K5) hn).mono ?_
  rintro e u6 ⟨v6, rfl, y0, k6⟩
  have K6 := K5.trans k6
  have x0 := x0.kept k6
  have s6 := k6.size
  clear k6 K5
  obtain ⟨ao6, cap6, hfm⟩ := y0.form
  subst hfm
  dsimp only
  repeat (first | go_values | go_skip | go_guarded | go_step | go_upon)
  go_at_call 10
  refine (eqValS l _ _ _ x0.at y0.at (by omega)).mono ?_
  rintro e u7 ⟨rfl, k7⟩
  have K7 := K6.trans k7
  have x0 := x0.kept k7
  have y0 := y0.kept k7
  have s7 := k7.size
  clear k7 K6
  clear y0 x0
  dsimp only
  repeat (first | go_values | go_skip | go_guarded | go_step | go_upon)
  go_ret
  exact ⟨rfl, K7⟩
set_option maxRecDepth 100000 in
set_option maxHeartbeats 8000000 in
theorem big (l : List ValD) (v : Value) (w : World) (hv : ValAt w v l) (hs9 : ∀ p ∈ l, p.1.size ≤ 9223372036854775807 ∧ p.2.2.size ≤ 9223372036854775807) (hlen : l.length ≤ maxLen) (hc : 1048576 < valCost l) :
    Calls Try.prog 3 #[v] w fun e w' => e = .returned (.bool true) ∧ Kept w w' := by
  unfold maxLen at hlen
  obtain ⟨ao, cap, hfm⟩ := row_nil hv
  subst hfm
  go_enter Try.func3, Try.ntmps3
  repeat (first | go_values | go_skip | go_guarded | go_step | go_upon)
  go_at_call 6
  refine (szValS l _ _ _ hv (by omega) (by omega) (by omega) hs9).mono ?_
  rintro e u1 ⟨rfl, k1⟩
  rw [leftOf_no (by omega)]
  dsimp only
  repeat (first | go_values | go_skip | go_guarded | go_step | go_upon)
  go_ret
  exact ⟨rfl, k1⟩
theorem size_of {l : List ValD} (h : valCost l ≤ 1048576) : l.length ≤ 1048576 ∧ ∀ d ∈ l, d.1.size ≤ 1048576 ∧ d.2.2.size ≤ 1048576 := by
  refine ⟨by unfold valCost at h; omega, fun d hd => ?_⟩
  obtain ⟨j, hj⟩ := List.mem_iff_getElem?.1 hd
  have := valSum_le hj
  unfold valCost at h
  unfold valW at this
  omega
theorem all (l : List ValD) (v : Value) {w : World} (hv : ValAt w v l) (hq : ∀ p ∈ l, p.1.size ≤ maxLen ∧ p.2.2.size ≤ maxLen) (hlen : l.length ≤ maxLen) (w' : World) (_ : w' = w) :
    Calls Try.prog 3 #[v] w fun e w' => e = .returned (.bool true) ∧ Kept w w' := by
  have hs9 : ∀ p ∈ l, p.1.size ≤ 9223372036854775807 ∧ p.2.2.size ≤ 9223372036854775807 := fun p hp => by have := hq p hp; unfold maxLen at this; omega
  by_cases hc : valCost l ≤ 1048576
  · have hz := size_of hc
    exact walk l (decide (ValsP l)) v w hv hs9 hc (fun u v h => sgoodv l v u h hz.1 hz.2) (fun u v h => igoodv l v u h hz.1 hz.2)
  · exact big l v w hv hs9 hlen (by omega)


set_option maxRecDepth 100000 in
theorem lifted (os : Os) (started : os.Started) (H : Type) (enc : TypeId × Value → H) :
    ReturnsInHanded {} Try.checked os 3 .any (Rows.fnExactGoodValuesSpec.pre6 enc Try.prog Try.f3 Rows.fnExactGoodValuesRow.domain false) (Rows.fnExactGoodValuesSpec.post enc Try.prog Try.f3 false true false false) := by
  refine returnsInHanded_of_change (C := Try.checked) own started (by kernel_rfl) Try.func3
    (ChangeSpec.witness6 (enc := enc) (C := Try.checked) false ⟨#[], #[.slice none 0 0], []⟩ 8 (by kernel_rfl) (by kernel_rfl) (by kernel_rfl) (by kernel_rfl)) ?_
  intro W base args ds gs before hval0 hW hcnd _
  have hval : ∀ (j : Nat) t v, Try.f3.params[j]? = some t → args[j]? = some v → Value.okWide Try.prog W .any base t v := hval0
  have hW' := hW
  obtain ⟨p, q, hA0, hV, rfl, hfz, hnd⟩ := hW
  have hA : DataW.TrodAll enc Try.prog W 0 (fun _ => true) true Try.f3.params.toList args.toList ds p := hA0
  rw [Try.params3] at hA hval
  obtain ⟨v0, vs0, d0, ds0, p0, q0, hargs, rfl, rfl, h0, r0⟩ := trodAll_cons hA
  obtain ⟨rfl, rfl, rfl⟩ := trodAll_nil r0
  obtain rfl : args = #[v0] := by cases args; simp_all
  obtain ⟨rfl, rfl⟩ := trodVars_none hV
  obtain ⟨l0, hv0, hq0, hl0⟩ := open_valS (hval 0 22 v0 rfl rfl) h0
  clear hA0 hval0
  simp only [List.append_nil] at hW'
  refine (all l0 v0 hv0 hq0 hl0 W rfl).mono fun e W' ⟨he, hg⟩ => ?_
  subst he
  exact ⟨_, rfl, post_of_kept (pa := _) (pv := []) hW' (fun _ _ _ => (trodAll_cons_mk (shut_bool Try.underlying4 _) trodAll_mk0)) (fun sp hsp => (trodAll_cons_mk (kept_trod (by kernel_rfl) (of_decide_eq_true (by kernel_rfl)) h0 hg (fun x hx => hW'.lt x (by simp [hx])) (fun x hx => hsp x (by simp [hx]))) trodAll_mk0)) (fun _ _ => rfl) hg⟩

theorem over : Rows.fnExactGoodValuesRow.holds Try.pinned (OpenSpec.ofChange Rows.fnExactGoodValuesSpec) :=
  OpenClaim.holds_of_wide 3 Try.f3 rfl rfl rfl rfl rfl rfl rfl ⟨rfl, rfl, rfl, rfl, rfl⟩ rfl rfl rfl rfl rfl (by kernel_rfl) Try.func3 (by kernel_rfl)
    (of_decide_eq_true (by kernel_rfl)) (by unfold Func.isWrapper; first | (rw [if_pos (by decide +kernel)]; kernel_rfl) | (rw [if_neg (by decide +kernel)]; exact ⟨rfl, rfl⟩))
    (fun os started H enc _ => lifted os started H enc)

theorem proved : Rows.FnExactGoodValuesSaid :=
  over
#print axioms proved
end Go.Proofs.Ytklgjhemcofhhaa.fnExactGoodValues
