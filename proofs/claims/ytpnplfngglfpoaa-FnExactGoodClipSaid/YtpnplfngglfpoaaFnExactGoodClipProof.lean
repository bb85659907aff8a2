/-
  At every clip the program's GoodClip answers what the specification's GoodClip answers, and writes into no argument.
-/
import Derived.Test.YtpnplfngglfpoaaRows
import Derived.Test.YtpnplfngglfpoaaGoodS11
import Derived.Test.YtpnplfngglfpoaaClipF
import Derived.Test.YtpnplfngglfpoaaClipP
import Derived.Test.YtpnplfngglfpoaaTo
import Derived.Test.YtpnplfngglfpoaaEq
import Derived.Test.YtpnplfngglfpoaaMarks
import Derived.Test.YtpnplfngglfpoaaOpen
import Derived.ChangeMaps
namespace Go.Proofs.Ytpnplfngglfpoaa.fnExactGoodClip
open Go.ChangeShapes Go.WideShapes Go.ChangeAt Go.RowKit
set_option linter.unusedVariables false

theorem own : ownKnob Try.prog.godebug = none := by kernel_rfl

set_option maxRecDepth 100000 in
set_option maxHeartbeats 8000000 in
theorem walk (c : ClipD) (J : Bool) (v : Value) (w : World) (hv : ClipAt w v c) (hf : ClipFit c) (hl : clipCost c ≤ 1048576)
    (hS : ∀ (u : World) (v : Value), ClipAt u v c → Calls Try.prog 17 #[v] u fun e u' => e = .returned (.bool J) ∧ Kept u u')
    (hI : ∀ (u : World) (v : Value), ClipAt u v c → Calls Try.prog 19 #[v] u fun e u' => e = .returned (.bool J) ∧ Kept u u') :
    Calls Try.prog 4 #[v] w fun e w' => e = .returned (.bool true) ∧ Kept w w' := by
  have hdl : decide ((1048576 : Int) - (clipCost c : Int) < 0) = false := by simp; omega
  obtain ⟨sa1, p1, sa2, p2, hfm⟩ := hv.form
  subst hfm
  have HS : Hid _ := hS
  have HI : Hid _ := hI
  clear hS hI
  go_enter Try.func4, Try.ntmps4
  repeat (first | go_values | go_skip | go_guarded | go_step | go_upon)
  go_at_call 16
  refine (szClip c _ _ _ (hv.kept ((But.refl _ _ _).alloc _)) (by omega) (by omega) hf).mono ?_
  rintro e u1 ⟨rfl, k1⟩
  rw [leftOf_yes (by omega)]
  have K1 : Kept w u1 := ((But.refl _ _ _).alloc _).trans k1
  have La := (Loc.new w [.int .i64 c.1, .slice sa1 c.2.1.length p1, .slice sa2 c.2.2.length p2] 38).kept k1
  have a0 := La.cell 0 rfl
  have a1 := La.cell 1 rfl
  have a2 := La.cell 2 rfl
  have al := La.lt
  dsimp only
  repeat (first | go_values | go_skip | go_guarded | go_step | go_upon)
  go_at_call 18
  refine (toClip c _ _ (hv.kept K1) hl).mono ?_
  rintro e u2 ⟨v2, rfl, o2, k2⟩
  have K2 := K1.trans k2
  have La := La.kept k2
  clear a0 a1 a2 al
  obtain ⟨aq2, cq2, ar2, cr2, hfm⟩ := o2.form
  subst hfm
  dsimp only
  repeat (first | go_values | go_skip | go_guarded | go_step | go_upon)
  go_at_call 17
  refine (HS.out _ _ o2.at).mono ?_
  rintro e u3 ⟨rfl, k3⟩
  have K3 := K2.trans k3
  have La := La.kept k3
  have a0 := La.cell 0 rfl
  have a1 := La.cell 1 rfl
  have a2 := La.cell 2 rfl
  have al := La.lt
  clear o2
  dsimp only
  repeat (first | go_values | go_skip | go_guarded | go_step | go_upon)
  go_at_call 18
  refine (toClip c _ _ (hv.kept K3) hl).mono ?_
  rintro e u4 ⟨v4, rfl, ox, k4⟩
  have K4 := K3.trans k4
  have La := La.kept k4
  clear a0 a1 a2 al
  obtain ⟨aq4, cq4, ar4, cr4, hfm⟩ := ox.form
  subst hfm
  dsimp only
  repeat (first | go_values | go_skip | go_guarded | go_step | go_upon)
  go_at_call 19
  refine (HI.out _ _ (ox.at.kept ((But.refl _ _ u4).alloc _))).mono ?_
  rintro e u5 ⟨rfl, k5⟩
  have j5 : Kept u4 u5 := ((But.refl _ _ u4).alloc _).trans k5
  have K5 := K4.trans j5
  have La := La.kept j5
  have Lx := (Loc.new u4 [.int .i64 c.1, .slice aq4 c.2.1.length cq4, .slice ar4 c.2.2.length cr4] 44).kept k5
  have ox := ox.kept j5
  have a0 := La.cell 0 rfl
  have a1 := La.cell 1 rfl
  have a2 := La.cell 2 rfl
  have al := La.lt
  have b0 := Lx.cell 0 rfl
  have b1 := Lx.cell 1 rfl
  have b2 := Lx.cell 2 rfl
  have bl := Lx.lt
  clear k1 k2 k3 k4 k5 j5 K1 K2 K3 K4
  dsimp only
  repeat (first | go_values | go_skip | go_guarded | go_step | go_upon)
  go_region_held3 (fun w' => w'.cell? ⟨w.heap.size, 0, none⟩ = some (.int .i64 c.1) ∧ w'.cell? ⟨w.heap.size, 1, none⟩ = some (.slice sa1 c.2.1.length p1) ∧ w'.cell? ⟨w.heap.size, 2, none⟩ = some (.slice sa2 c.2.2.length p2) ∧ w'.cell? ⟨u4.heap.size, 0, none⟩ = some (.int .i64 c.1) ∧ w'.cell? ⟨u4.heap.size, 1, none⟩ = some (.slice aq4 c.2.1.length cq4) ∧ w'.cell? ⟨u4.heap.size, 2, none⟩ = some (.slice ar4 c.2.2.length cr4)) (simp [go_sem, *])
    (first | (go_at_call 18; refine (toClip c _ _ (hv.kept K5.drew) hl).mono ?_; rintro e u7 ⟨v7, rfl, o7, k7⟩; have j7 : Kept u5 u7 := ((But.refl _ _ u5).drew).trans k7; obtain ⟨aq7, cq7, ar7, cr7, hfm⟩ := o7.form; subst hfm; have a0 := Kept.cell k7 a0; have a1 := Kept.cell k7 a1; have a2 := Kept.cell k7 a2; have b0 := Kept.cell k7 b0; have b1 := Kept.cell k7 b1; have b2 := Kept.cell k7 b2)
           | (go_at_call 20; refine (eqClip c _ _ _ (ox.at.kept j7) o7.at hl).mono ?_; rintro e u8 ⟨rfl, k8⟩; have a0 := Kept.cell k8 a0; have a1 := Kept.cell k8 a1; have a2 := Kept.cell k8 a2; have b0 := Kept.cell k8 b0; have b1 := Kept.cell k8 b1; have b2 := Kept.cell k8 b2))
  all_goals
    repeat (first | go_values | go_skip | go_guarded | go_step | go_upon)
    go_ret
    exact ⟨rfl, (K5.trans j7).trans k8⟩

set_option maxRecDepth 100000 in
theorem big (c : ClipD)  (v : Value) (w : World) (hv : ClipAt w v c) (hf : ClipFit c) (hl : 1048576 < clipCost c) :
    Calls Try.prog 4 #[v] w fun e w' => e = .returned (.bool true) ∧ Kept w w' := by
  obtain ⟨sa1, p1, sa2, p2, hfm⟩ := hv.form
  subst hfm
  go_enter Try.func4, Try.ntmps4
  repeat (first | go_values | go_skip | go_guarded | go_step | go_upon)
  go_at_call 16
  refine (szClip c _ _ _ (hv.kept (by repeat (first | with_reducible exact But.refl _ _ _ | with_reducible apply But.alloc))) (by omega) (by omega) hf).mono ?_
  rintro e u1 ⟨rfl, k1⟩
  rw [leftOf_no (by omega)]
  dsimp only
  repeat (first | go_values | go_skip | go_guarded | go_step | go_upon)
  go_ret
  refine ⟨rfl, But.trans ?_ k1⟩
  repeat (first | with_reducible exact But.refl _ _ _ | with_reducible apply But.alloc)

theorem all (c : ClipD) (v : Value) {w : World} (hv : ClipAt w v c) (hf : ClipFit c) (w' : World) (_ : w' = w) :
    Calls Try.prog 4 #[v] w fun e w' => e = .returned (.bool true) ∧ Kept w w' := by
  by_cases hl : clipCost c ≤ 1048576
  · exact walk c (decide (ClipP c)) v w hv hf hl (fun u v h => sgoodclip c v u h hl) (fun u v h => igoodclip c v u h hl)
  · exact big c v w hv hf (by omega)


set_option maxRecDepth 100000 in
theorem lifted (os : Os) (started : os.Started) (H : Type) (enc : TypeId × Value → H) :
    ReturnsInHanded {} Try.checked os 4 .any (Rows.fnExactGoodClipSpec.pre6 enc Try.prog Try.f4 Rows.fnExactGoodClipRow.domain false) (Rows.fnExactGoodClipSpec.post enc Try.prog Try.f4 false true false false) := by
  refine returnsInHanded_of_change (C := Try.checked) own started (by kernel_rfl) Try.func4
    (ChangeSpec.witness6 (enc := enc) (C := Try.checked) false ⟨#[], #[.agg #[.int .i64 0, .slice none 0 0, .slice none 0 0]], []⟩ 8 (by kernel_rfl) (by kernel_rfl) (by kernel_rfl) (by kernel_rfl)) ?_
  intro W base args ds gs before hval0 hW hcnd _
  have hval : ∀ (j : Nat) t v, Try.f4.params[j]? = some t → args[j]? = some v → Value.okWide Try.prog W .any base t v := hval0
  have hW' := hW
  obtain ⟨p, q, hA0, hV, rfl, hfz, hnd⟩ := hW
  have hA : DataW.TrodAll enc Try.prog W 0 (fun _ => true) true Try.f4.params.toList args.toList ds p := hA0
  rw [Try.params4] at hA hval
  obtain ⟨v0, vs0, d0, ds0, p0, q0, hargs, rfl, rfl, h0, r0⟩ := trodAll_cons hA
  obtain ⟨rfl, rfl, rfl⟩ := trodAll_nil r0
  obtain rfl : args = #[v0] := by cases args; simp_all
  obtain ⟨rfl, rfl⟩ := trodVars_none hV
  obtain ⟨c0, hv0, hl0⟩ := open_clip (hval 0 38 v0 rfl rfl) h0
  clear hA0 hval0
  simp only [List.append_nil] at hW'
  refine (all c0 v0 hv0 hl0 W rfl).mono fun e W' ⟨he, hg⟩ => ?_
  subst he
  exact ⟨_, rfl, post_of_kept (pa := _) (pv := []) hW' (fun _ _ _ => (trodAll_cons_mk (shut_bool Try.underlying4 _) trodAll_mk0)) (fun sp hsp => (trodAll_cons_mk (kept_trod (by kernel_rfl) (of_decide_eq_true (by kernel_rfl)) h0 hg (fun x hx => hW'.lt x (by simp [hx])) (fun x hx => hsp x (by simp [hx]))) trodAll_mk0)) (fun _ _ => rfl) hg⟩

theorem over : Rows.fnExactGoodClipRow.holds Try.pinned (OpenSpec.ofChange Rows.fnExactGoodClipSpec) :=
  OpenClaim.holds_of_wide 4 Try.f4 rfl rfl rfl rfl rfl rfl rfl ⟨rfl, rfl, rfl, rfl, rfl⟩ rfl rfl rfl rfl rfl (by kernel_rfl) Try.func4 (by kernel_rfl)
    (of_decide_eq_true (by kernel_rfl)) (by unfold Func.isWrapper; first | (rw [if_pos (by decide +kernel)]; kernel_rfl) | (rw [if_neg (by decide +kernel)]; exact ⟨rfl, rfl⟩))
    (fun os started H enc _ => lifted os started H enc)

theorem proved : Rows.FnExactGoodClipSaid :=
  over
#print axioms proved
end Go.Proofs.Ytpnplfngglfpoaa.fnExactGoodClip
