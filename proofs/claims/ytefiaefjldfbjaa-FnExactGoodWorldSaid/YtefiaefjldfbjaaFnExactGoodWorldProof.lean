/-
  At every world the program's GoodWorld answers what the specification's GoodWorld answers, and writes into no argument.
-/
import Derived.Test.YtefiaefjldfbjaaRows
import Derived.Test.YtefiaefjldfbjaaTick
import Derived.ChangeMaps
namespace Go.Proofs.Ytefiaefjldfbjaa.fnExactGoodWorld
open Go.ChangeShapes Go.WideShapes Go.ChangeAt Go.RowKit
set_option linter.unusedVariables false

theorem own : ownKnob Try.prog.godebug = none := by kernel_rfl

set_option maxHeartbeats 4000000 in
theorem walk (D : WD) (b : Bool) (v : Value) (w : World) (hv : WAt w v D) (hl : ecost D.2.2 ≤ 1048576) (hf : Fits D.2.2)
    (hS : ∀ (u : World) (v : Value), WAt u v D → Calls Try.prog 25 #[v] u fun e u' => e = .returned (.bool b) ∧ Kept u u')
    (hI : ∀ (u : World) (v : Value), WAt u v D → Calls Try.prog 27 #[v] u fun e u' => e = .returned (.bool b) ∧ Kept u u') :
    Calls Try.prog 5 #[v] w fun e w' => e = .returned (.bool true) ∧ Kept w w' := by
  have hs := small_of hl
  obtain ⟨ao, n, cap, hfm⟩ := hv.form
  subst hfm
  have HS : Hid _ := hS
  have HI : Hid _ := hI
  clear hS hI
  go_enter Try.func5, Try.ntmps5
  go_wp2_with fail
  go_at_call 24; refine (szWorld D _ _ _ (hv.kept ((But.refl _ _ _).alloc _)) (by omega) (by omega) hf).mono ?_; rintro e u1 ⟨rfl, k1⟩
  rw [leftOf_yes (by omega)]
  have hdl : decide ((1048576 : Int) - (ecost D.2.2 : Int) < 0) = false := by simp; omega
  have K1 : Kept w u1 := ((But.refl _ _ _).alloc _).trans k1
  have La := (Loc.new w [.int .i64 D.1, .int .i64 D.2.1, .slice ao n cap] 51).kept k1
  have a0 := La.cell 0 rfl
  have a1 := La.cell 1 rfl
  have a2 := La.cell 2 rfl
  clear k1
  go_wp2_with fail
  go_at_call 26; refine (toWorld D _ _ (hv.kept K1) hl).mono ?_; rintro e u2 ⟨v2, rfl, o2, k2⟩
  have K2 := K1.trans k2
  have La := La.kept k2
  clear a0 a1 a2
  obtain ⟨ao2, n2, cap2, hfm⟩ := o2.form
  subst hfm
  go_wp2_with fail
  go_at_call 25; refine (HS.out _ _ o2.at).mono ?_; rintro e u3 ⟨rfl, k3⟩
  clear o2
  have K3 := K2.trans k3
  have La := La.kept k3
  have a0 := La.cell 0 rfl
  have a1 := La.cell 1 rfl
  have a2 := La.cell 2 rfl
  go_wp2_with fail
  go_at_call 26; refine (toWorld D _ _ (hv.kept K3) hl).mono ?_; rintro e u4 ⟨v4, rfl, o4, k4⟩
  have K4 := K3.trans k4
  have La := La.kept k4
  clear a0 a1 a2
  obtain ⟨ao4, n4, cap4, hfm⟩ := o4.form
  subst hfm
  go_wp2_with fail
  go_at_call 27; refine (HI.out _ _ (o4.at.kept ((But.refl _ _ u4).alloc _))).mono ?_; rintro e u6 ⟨rfl, k5⟩
  have j5 : Kept u4 u6 := ((But.refl _ _ u4).alloc _).trans k5
  have K6 := K4.trans j5
  have La := La.kept j5
  have Lx := (Loc.new u4 [.int .i64 D.1, .int .i64 D.2.1, .slice ao4 n4 cap4] 25).kept k5
  have o4 := o4.kept j5
  clear k2 k3 k4 k5 j5 K1 K2 K3 K4
  have a0 := La.cell 0 rfl
  have a1 := La.cell 1 rfl
  have a2 := La.cell 2 rfl
  have c0 := Lx.cell 0 rfl
  have c1 := Lx.cell 1 rfl
  have c2 := Lx.cell 2 rfl
  go_wp2_with fail
  go_region_held3 (fun w' => w'.cell? ⟨w.heap.size, 0, none⟩ = some (.int .i64 D.1) ∧ w'.cell? ⟨w.heap.size, 1, none⟩ = some (.int .i64 D.2.1) ∧ w'.cell? ⟨w.heap.size, 2, none⟩ = some (.slice ao n cap) ∧ w'.cell? ⟨u4.heap.size, 0, none⟩ = some (.int .i64 D.1) ∧ w'.cell? ⟨u4.heap.size, 1, none⟩ = some (.int .i64 D.2.1) ∧ w'.cell? ⟨u4.heap.size, 2, none⟩ = some (.slice ao4 n4 cap4)) (simp [go_sem, *])
    (first | (go_at_call 26; refine (toWorld D _ _ (hv.kept K6.drew) hl).mono ?_; rintro e u7 ⟨v7, rfl, o7, k7⟩; have j7 : Kept u6 u7 := ((But.refl _ _ u6).drew).trans k7; obtain ⟨ao7, n7, cap7, hfm⟩ := o7.form; subst hfm; have a0 := Kept.cell k7 a0; have a1 := Kept.cell k7 a1; have a2 := Kept.cell k7 a2; have c0 := Kept.cell k7 c0; have c1 := Kept.cell k7 c1; have c2 := Kept.cell k7 c2)
           | (go_at_call 21; refine (eqWorld D _ _ _ (o4.at.kept j7) o7.at hs).mono ?_; rintro e u8 ⟨rfl, k8⟩; have a0 := Kept.cell k8 a0; have a1 := Kept.cell k8 a1; have a2 := Kept.cell k8 a2; have c0 := Kept.cell k8 c0; have c1 := Kept.cell k8 c1; have c2 := Kept.cell k8 c2))
  all_goals
    have K8 := K6.trans (j7.trans k8)
    go_wp2
    go_ret
    exact ⟨rfl, K8⟩

set_option maxHeartbeats 1000000 in
theorem big (D : WD) (v : Value)  (w : World) (hv : WAt w v D) (hf : Fits D.2.2) (hl : 1048576 < ecost D.2.2) :
    Calls Try.prog 5 #[v] w fun e w' => e = .returned (.bool true) ∧ Kept w w' := by
  obtain ⟨ao, n, cap, hfm⟩ := hv.form
  subst hfm
  go_enter Try.func5, Try.ntmps5
  go_wp2_with (go_at_call 24; refine (szWorld D _ _ _ (hv.kept ((But.refl _ _ _).alloc _)) (by omega) (by omega) hf).mono ?_; rintro e u1 ⟨rfl, k1⟩; rw [leftOf_no (by omega)])
  go_ret
  exact ⟨rfl, ((But.refl _ _ _).alloc _).trans k1⟩

theorem all {w : World} (D : WD) (v : Value) (hv : WAt w v D) (hf : Fits D.2.2) (w' : World) (e : w' = w) :
    Calls Try.prog 5 #[v] w fun e w' => e = .returned (.bool true) ∧ Kept w w' := by
  by_cases hl : ecost D.2.2 ≤ 1048576
  · by_cases hg : GoodW D
    · exact walk D true v w hv hl hf (fun u v h => good_yes (specGood D v u h hl) hg) (fun u v h => good_yes (implGood D v u h hl) hg)
    · exact walk D false v w hv hl hf (fun u v h => good_no (specGood D v u h hl) hg) (fun u v h => good_no (implGood D v u h hl) hg)
  · exact big D v w hv hf (by omega)


set_option maxRecDepth 100000 in
theorem lifted (os : Os) (started : os.Started) (H : Type) (enc : TypeId × Value → H) :
    ReturnsInHanded {} Try.checked os 5 .any (Rows.fnExactGoodWorldSpec.pre6 enc Try.prog Try.f5 Rows.fnExactGoodWorldRow.domain false) (Rows.fnExactGoodWorldSpec.post enc Try.prog Try.f5 false true false false) := by
  refine returnsInHanded_of_change (C := Try.checked) own started (by kernel_rfl) Try.func5
    (ChangeSpec.witness6 (enc := enc) (C := Try.checked) false ⟨#[], #[.agg #[.int .i64 0, .int .i64 0, .slice none 0 0]], []⟩ 8 (by kernel_rfl) (by kernel_rfl) (by kernel_rfl) (by kernel_rfl)) ?_
  intro W base args ds gs before hval0 hW hcnd _
  have hval : ∀ (j : Nat) t v, Try.f5.params[j]? = some t → args[j]? = some v → Value.okWide Try.prog W .any base t v := hval0
  have hW' := hW
  obtain ⟨p, q, hA0, hV, rfl, hfz, hnd⟩ := hW
  have hA : DataW.TrodAll enc Try.prog W 0 (fun _ => true) true Try.f5.params.toList args.toList ds p := hA0
  rw [Try.params5] at hA hval
  obtain ⟨v0, vs0, d0, ds0, p0, q0, hargs, rfl, rfl, h0, r0⟩ := trodAll_cons hA
  obtain ⟨rfl, rfl, rfl⟩ := trodAll_nil r0
  obtain rfl : args = #[v0] := by cases args; simp_all
  obtain ⟨rfl, rfl⟩ := trodVars_none hV
  obtain ⟨D0, hD0, hF0⟩ := open_world (hval 0 51 v0 rfl rfl) h0
  clear hA0 hval0
  simp only [List.append_nil] at hW'
  refine (all D0 v0 hD0 hF0 W rfl).mono fun e W' ⟨he, hg⟩ => ?_
  subst he
  exact ⟨_, rfl, post_of_kept (pa := _) (pv := []) hW' (fun _ _ _ => (trodAll_cons_mk (shut_bool Try.underlying4 _) trodAll_mk0)) (fun sp hsp => (trodAll_cons_mk (kept_trod (by kernel_rfl) (of_decide_eq_true (by kernel_rfl)) h0 hg (fun x hx => hW'.lt x (by simp [hx])) (fun x hx => hsp x (by simp [hx]))) trodAll_mk0)) (fun _ _ => rfl) hg⟩

theorem over : Rows.fnExactGoodWorldRow.holds Try.pinned (OpenSpec.ofChange Rows.fnExactGoodWorldSpec) :=
  OpenClaim.holds_of_wide 5 Try.f5 rfl rfl rfl rfl rfl rfl rfl ⟨rfl, rfl, rfl, rfl, rfl⟩ rfl rfl rfl rfl rfl (by kernel_rfl) Try.func5 (by kernel_rfl)
    (of_decide_eq_true (by kernel_rfl)) (by unfold Func.isWrapper; first | (rw [if_pos (by decide +kernel)]; kernel_rfl) | (rw [if_neg (by decide +kernel)]; exact ⟨rfl, rfl⟩))
    (fun os started H enc _ => lifted os started H enc)

theorem proved : Rows.FnExactGoodWorldSaid :=
  over
#print axioms proved
end Go.Proofs.Ytefiaefjldfbjaa.fnExactGoodWorld
