/-
  At every list of boxes the program's GoodBoxes answers what the specification's GoodBoxes answers, and writes into no argument.
-/
import Derived.Test.YtaofilinejanjaaRows
import Derived.Test.YtaofilinejanjaaBoxT
import Derived.Test.YtaofilinejanjaaBoxO
import Derived.Test.YtaofilinejanjaaGoodS18
import Derived.Test.YtaofilinejanjaaGoodI18
import Derived.ChangeMaps
namespace Go.Proofs.Ytaofilinejanjaa.fnExactGoodBoxes
open Go.ChangeShapes Go.WideShapes Go.ChangeAt Go.RowKit
set_option linter.unusedVariables false

theorem own : ownKnob Try.prog.godebug = none := by kernel_rfl

set_option maxRecDepth 100000 in
set_option maxHeartbeats 8000000 in
theorem walk (l : List BoxD) (jb : Bool) (v : Value) (w : World) (hv : BoxAt w v l) (hl : l.length ≤ 1048576)
    (hS : ∀ (u : World) (v : Value), BoxAt u v l → Calls Try.prog 9 #[v] u fun e u' => e = .returned (.bool jb) ∧ Kept u u')
    (hI : ∀ (u : World) (v : Value), BoxAt u v l → Calls Try.prog 11 #[v] u fun e u' => e = .returned (.bool jb) ∧ Kept u u') :
    Calls Try.prog 3 #[v] w fun e w' => e = .returned (.bool true) ∧ Kept w w' := by
  have hdl : decide ((1048576 : Int) - (l.length : Int) < 0) = false := by simp; omega
  have HS : Hid (∀ (u : World) (v : Value), BoxAt u v l → Calls Try.prog 9 #[v] u fun e u' => e = .returned (.bool jb) ∧ Kept u u') := hS
  have HI : Hid (∀ (u : World) (v : Value), BoxAt u v l → Calls Try.prog 11 #[v] u fun e u' => e = .returned (.bool jb) ∧ Kept u u') := hI
  clear hS hI
  obtain ⟨ao, cap, hfm⟩ := row_nil hv
  subst hfm
  go_enter Try.func3, Try.ntmps3
  repeat (first | go_values | go_skip | go_guarded | go_step | go_upon)
  go_at_call 8
  refine (szBoxS l _ _ _ hv (by omega) (by omega) (by omega)).mono ?_
  rintro e u1 ⟨rfl, k1⟩
  rw [leftOf_yes (by omega)]
  have K1 := k1
  have s1 := k1.size
  clear k1
  dsimp only
  repeat (first | go_values | go_skip | go_guarded | go_step | go_upon)
  go_at_call 10
  refine (toBoxS l _ _ (hv.kept K1) (by omega)).mono ?_
  rintro e u2 ⟨v2, rfl, o2, k2⟩
  have K2 := K1.trans k2
  have s2 := k2.size
  clear k2 K1
  obtain ⟨ao2, cap2, hfm⟩ := o2.form
  subst hfm
  dsimp only
  repeat (first | go_values | go_skip | go_guarded | go_step | go_upon)
  go_at_call 9
  refine (HS.out _ _ o2.at).mono ?_
  rintro e u3 ⟨rfl, k3⟩
  have K3 := K2.trans k3
  have o2 := o2.kept k3
  have s3 := k3.size
  clear k3 K2
  clear o2
  dsimp only
  repeat (first | go_values | go_skip | go_guarded | go_step | go_upon)
  go_at_call 10
  refine (toBoxS l _ _ (hv.kept K3) (by omega)).mono ?_
  rintro e u4 ⟨v4, rfl, ox, k4⟩
  have K4 := K3.trans k4
  have s4 := k4.size
  clear k4 K3
  obtain ⟨ao4, cap4, hfm⟩ := ox.form
  subst hfm
  dsimp only
  repeat (first | go_values | go_skip | go_guarded | go_step | go_upon)
  go_at_call 11
  refine (HI.out _ _ ox.at).mono ?_
  rintro e u5 ⟨rfl, k5⟩
  have K5 := K4.trans k5
  have ox := ox.kept k5
  have s5 := k5.size
  clear k5 K4
  dsimp only
  repeat (first | go_values | go_skip | go_guarded | go_step | go_upon)
  go_at_call 10
  refine (toBoxS l _ _ (hv.kept K5) (by omega)).mono ?_
  rintro e u6 ⟨v6, rfl, oz, k6⟩
  have K6 := K5.trans k6
  have ox := ox.kept k6
  have s6 := k6.size
  clear k6 K5
  obtain ⟨ao6, cap6, hfm⟩ := oz.form
  subst hfm
  dsimp only
  repeat (first | go_values | go_skip | go_guarded | go_step | go_upon)
  go_at_call 12
  refine (eqBoxS l _ _ _ ox.at oz.at (by omega)).mono ?_
  rintro e u7 ⟨rfl, k7⟩
  have K7 := K6.trans k7
  have ox := ox.kept k7
  have oz := oz.kept k7
  have s7 := k7.size
  clear k7 K6
  dsimp only
  repeat (first | go_values | go_skip | go_guarded | go_step | go_upon)
  go_ret
  exact ⟨rfl, K7⟩
set_option maxRecDepth 100000 in
set_option maxHeartbeats 8000000 in
theorem big (l : List BoxD) (v : Value) (w : World) (hv : BoxAt w v l) (hlen : l.length ≤ maxLen) (hl : 1048576 < l.length) :
    Calls Try.prog 3 #[v] w fun e w' => e = .returned (.bool true) ∧ Kept w w' := by
  unfold maxLen at hlen
  obtain ⟨ao, cap, hfm⟩ := row_nil hv
  subst hfm
  go_enter Try.func3, Try.ntmps3
  repeat (first | go_values | go_skip | go_guarded | go_step | go_upon)
  go_at_call 8
  refine (szBoxS l _ _ _ hv (by omega) (by omega) (by omega)).mono ?_
  rintro e u1 ⟨rfl, k1⟩
  rw [leftOf_no (by omega)]
  dsimp only
  repeat (first | go_values | go_skip | go_guarded | go_step | go_upon)
  go_ret
  exact ⟨rfl, k1⟩
theorem all (l : List BoxD) (v : Value) {w : World} (hv : BoxAt w v l) (hq : ∀ p ∈ l, True) (hlen : l.length ≤ maxLen) (w' : World) (_ : w' = w) :
    Calls Try.prog 3 #[v] w fun e w' => e = .returned (.bool true) ∧ Kept w w' := by
  by_cases hl : l.length ≤ 1048576
  · exact walk l  _ v w hv hl (fun u v h => sgood l v u h hl) (fun u v h => igood l v u h hl)
  · exact big l  v w hv hlen (by omega)


set_option maxRecDepth 100000 in
theorem lifted (os : Os) (started : os.Started) (H : Type) (enc : TypeId × Value → H) :
    ReturnsInHanded {} Try.checked os 3 .any (Rows.fnExactGoodBoxesSpec.pre6 enc Try.prog Try.f3 Rows.fnExactGoodBoxesRow.domain false) (Rows.fnExactGoodBoxesSpec.post enc Try.prog Try.f3 false true false false) := by
  refine returnsInHanded_of_change (C := Try.checked) own started (by kernel_rfl) Try.func3
    (ChangeSpec.witness6 (enc := enc) (C := Try.checked) false ⟨#[], #[.slice none 0 0], []⟩ 8 (by kernel_rfl) (by kernel_rfl) (by kernel_rfl) (by kernel_rfl)) ?_
  intro W base args ds gs before hval0 hW hcnd _
  have hval : ∀ (j : Nat) t v, Try.f3.params[j]? = some t → args[j]? = some v → Value.okWide Try.prog W .any base t v := hval0
  have hW' := hW
  obtain ⟨p, q, hA0, hV, rfl, hfz, hnd⟩ := hW
  have hA : DataW.TrodAll enc Try.prog W 0 (fun _ => true) true Try.f3.params.toList args.toList ds p := hA0
  rw [Try.params3] at hA hval
  obtain ⟨v0, vs0, d0, ds0, p0, q0, hargs, rfl, rfl, h0, r0⟩ := trodAll_cons hA
  obtain ⟨rfl, rfl, rfl⟩ := trodAll_nil r0
  obtain rfl : args = #[v0] := by cases args; simp_all
  obtain ⟨rfl, rfl⟩ := trodVars_none hV
  obtain ⟨l0, hv0, hq0, hl0⟩ := open_boxS (hval 0 22 v0 rfl rfl) h0
  clear hA0 hval0
  simp only [List.append_nil] at hW'
  refine (all l0 v0 hv0 hq0 hl0 W rfl).mono fun e W' ⟨he, hg⟩ => ?_
  subst he
  exact ⟨_, rfl, post_of_kept (pa := _) (pv := []) hW' (fun _ _ _ => (trodAll_cons_mk (shut_bool Try.underlying4 _) trodAll_mk0)) (fun sp hsp => (trodAll_cons_mk (kept_trod (by kernel_rfl) (of_decide_eq_true (by kernel_rfl)) h0 hg (fun x hx => hW'.lt x (by simp [hx])) (fun x hx => hsp x (by simp [hx]))) trodAll_mk0)) (fun _ _ => rfl) hg⟩

theorem over : Rows.fnExactGoodBoxesRow.holds Try.pinned (OpenSpec.ofChange Rows.fnExactGoodBoxesSpec) :=
  OpenClaim.holds_of_wide 3 Try.f3 rfl rfl rfl rfl rfl rfl rfl ⟨rfl, rfl, rfl, rfl, rfl⟩ rfl rfl rfl rfl rfl (by kernel_rfl) Try.func3 (by kernel_rfl)
    (of_decide_eq_true (by kernel_rfl)) (by unfold Func.isWrapper; first | (rw [if_pos (by decide +kernel)]; kernel_rfl) | (rw [if_neg (by decide +kernel)]; exact ⟨rfl, rfl⟩))
    (fun os started H enc _ => lifted os started H enc)

theorem proved : Rows.FnExactGoodBoxesSaid :=
  over
#print axioms proved
end Go.Proofs.Ytaofilinejanjaa.fnExactGoodBoxes
