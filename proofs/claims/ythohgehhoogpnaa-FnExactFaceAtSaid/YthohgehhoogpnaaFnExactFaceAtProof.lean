/-
  At every ground and every place the program's FaceAt answers what the specification's FaceAt answers, and writes into no argument.
-/
import Derived.Test.YthohgehhoogpnaaRows
import Derived.Test.YthohgehhoogpnaaFaceAt8
import Derived.Test.YthohgehhoogpnaaOpenG
import Derived.ChangeMaps
namespace Go.Proofs.Ythohgehhoogpnaa.fnExactFaceAt
open Go.ChangeShapes Go.WideShapes Go.ChangeAt Go.RowKit
set_option linter.unusedVariables false

theorem own : ownKnob Try.prog.godebug = none := by kernel_rfl

set_option maxRecDepth 100000 in
set_option maxHeartbeats 4000000 in
theorem walk (g : GroundD) (x y jr : Int) (v : Value) (w : World) (hv : GroundAt w v g) (hn : GroundFit g) (hl : groundCost g ≤ 1048576)
    (hS : ∀ (u : World) (lo hi : Nat) (v : Value), GroundO u lo hi v g → Calls Try.prog 21 #[v, .int .i64 x, .int .i64 y] u fun e u' => e = .returned (.int .i64 jr) ∧ Kept u u')
    (hI : ∀ (u : World) (lo hi : Nat) (v : Value), GroundO u lo hi v g → Calls Try.prog 22 #[v, .int .i64 x, .int .i64 y] u fun e u' => e = .returned (.int .i64 jr) ∧ Kept u u') :
    Calls Try.prog 5 #[v, .int .i64 x, .int .i64 y] w fun e w' => e = .returned (.bool true) ∧ Kept w w' := by
  have h1n : g.1.length ≤ 1048576 := by unfold groundCost at hl; omega
  have h2n : g.2.length ≤ 1048576 := by unfold groundCost lLCost at hl; omega
  have hfn : ∀ f ∈ g.2, f.length ≤ 1048576 := fun f hf => by have := lLSum_le hf; unfold groundCost lLCost at hl; omega
  have hsm : lLSum g.2 ≤ 1048576 := by unfold groundCost lLCost at hl; omega
  have hdl : decide ((1048576 : Int) - (groundCost g : Int) < 0) = false := by simp; omega
  obtain ⟨ap, cp, af, cf, hfm⟩ := hv.form
  subst hfm
  have HS : Hid _ := hS
  have HI : Hid _ := hI
  clear hS hI
  go_enter Try.func5, Try.ntmps5
  repeat (first | go_values | go_skip | go_guarded | go_step | go_upon)
  go_at_call 16
  refine (szGround g _ _ _ (hv.kept ((But.refl _ _ _).alloc _)) (by omega) (by omega) hn).mono ?_
  rintro e u1 ⟨rfl, k1⟩
  rw [leftOf_yes (by omega)]
  have K1 : Kept w u1 := ((But.refl _ _ _).alloc _).trans k1
  have La := (Loc.new w [.slice ap g.1.length cp, .slice af g.2.length cf] 41).kept k1
  have a0 := La.cell 0 rfl
  have a1 := La.cell 1 rfl
  have al := La.lt
  dsimp only
  repeat (first | go_values | go_skip | go_guarded | go_step | go_upon)
  go_at_call 18
  refine (toGround g _ _ (hv.kept K1) h1n h2n hfn).mono ?_
  rintro e u2 ⟨v2, rfl, o2, k2⟩
  have K2 := K1.trans k2
  have La := La.kept k2
  clear a0 a1 al
  obtain ⟨ap2, cp2, af2, cf2, hfm⟩ := o2.at.form
  subst hfm
  dsimp only
  repeat (first | go_values | go_skip | go_guarded | go_step | go_upon)
  go_at_call 21
  refine (HS.out _ _ _ _ o2).mono ?_
  rintro e u3 ⟨rfl, k3⟩
  have K3 := K2.trans k3
  have La := La.kept k3
  have a0 := La.cell 0 rfl
  have a1 := La.cell 1 rfl
  have al := La.lt
  clear o2
  dsimp only
  repeat (first | go_values | go_skip | go_guarded | go_step | go_upon)
  go_at_call 18
  refine (toGround g _ _ (hv.kept K3) h1n h2n hfn).mono ?_
  rintro e u4 ⟨v4, rfl, o4, k4⟩
  have K4 := K3.trans k4
  have La := La.kept k4
  clear a0 a1 al
  obtain ⟨ap4, cp4, af4, cf4, hfm⟩ := o4.at.form
  subst hfm
  dsimp only
  repeat (first | go_values | go_skip | go_guarded | go_step | go_upon)
  go_at_call 22
  refine (HI.out _ _ _ _ (o4.kept ((But.refl _ _ u4).alloc _))).mono ?_
  rintro e u5 ⟨rfl, k5⟩
  have j5 : Kept u4 u5 := ((But.refl _ _ u4).alloc _).trans k5
  have K5 := K4.trans j5
  have La := La.kept j5
  have Lx := (Loc.new u4 [.slice ap4 g.1.length cp4, .slice af4 g.2.length cf4] 26).kept k5
  have o4 := o4.kept j5
  have a0 := La.cell 0 rfl
  have a1 := La.cell 1 rfl
  have al := La.lt
  have b0 := Lx.cell 0 rfl
  have b1 := Lx.cell 1 rfl
  have bl := Lx.lt
  clear k1 k2 k3 k4 k5 j5 K1 K2 K3 K4
  dsimp only
  repeat (first | go_values | go_skip | go_guarded | go_step | go_upon)
  go_region_held3 (fun w' => w'.cell? ⟨w.heap.size, 0, none⟩ = some (.slice ap g.1.length cp) ∧ w'.cell? ⟨w.heap.size, 1, none⟩ = some (.slice af g.2.length cf) ∧ w'.cell? ⟨u4.heap.size, 0, none⟩ = some (.slice ap4 g.1.length cp4) ∧ w'.cell? ⟨u4.heap.size, 1, none⟩ = some (.slice af4 g.2.length cf4)) (simp [go_sem, *])
    (first | (go_at_call 18; refine (toGround g _ _ (hv.kept K5.drew) h1n h2n hfn).mono ?_; rintro e u7 ⟨v7, rfl, o7, k7⟩; have j7 : Kept u5 u7 := ((But.refl _ _ u5).drew).trans k7; obtain ⟨ap7, cp7, af7, cf7, hfm⟩ := o7.at.form; subst hfm; have a0 := Kept.cell k7 a0; have a1 := Kept.cell k7 a1; have b0 := Kept.cell k7 b0; have b1 := Kept.cell k7 b1)
           | (go_at_call 20; refine (eqGround g _ _ _ (o4.at.kept j7) o7.at (by omega) (by omega) (fun p hp => Nat.le_trans (hfn p hp) (by omega))).mono ?_; rintro e u8 ⟨rfl, k8⟩; have a0 := Kept.cell k8 a0; have a1 := Kept.cell k8 a1; have b0 := Kept.cell k8 b0; have b1 := Kept.cell k8 b1))
  all_goals
    repeat (first | go_values | go_skip | go_guarded | go_step | go_upon)
    go_ret
    exact ⟨rfl, (K5.trans j7).trans k8⟩

set_option maxRecDepth 100000 in
set_option maxHeartbeats 1000000 in
theorem big (g : GroundD) (x y : Int) (v : Value) (w : World) (hv : GroundAt w v g) (hn : GroundFit g) (hl : 1048576 < groundCost g) :
    Calls Try.prog 5 #[v, .int .i64 x, .int .i64 y] w fun e w' => e = .returned (.bool true) ∧ Kept w w' := by
  obtain ⟨ap, cp, af, cf, hfm⟩ := hv.form
  subst hfm
  go_enter Try.func5, Try.ntmps5
  repeat (first | go_values | go_skip | go_guarded | go_step | go_upon)
  go_at_call 16
  refine (szGround g _ _ _ (hv.kept (by repeat (first | with_reducible exact But.refl _ _ _ | with_reducible apply But.alloc))) (by omega) (by omega) hn).mono ?_
  rintro e u1 ⟨rfl, k1⟩
  rw [leftOf_no (by omega)]
  dsimp only
  repeat (first | go_values | go_skip | go_guarded | go_step | go_upon)
  go_ret
  refine ⟨rfl, But.trans ?_ k1⟩
  repeat (first | with_reducible exact But.refl _ _ _ | with_reducible apply But.alloc)

theorem all {w : World} (g : GroundD) (v : Value) (hv : GroundAt w v g) (hn : GroundFit g) (x y : Int) (w' : World) (_ : w' = w) :
    Calls Try.prog 5 #[v, .int .i64 x, .int .i64 y] w fun e w' => e = .returned (.bool true) ∧ Kept w w' := by
  by_cases hl : groundCost g ≤ 1048576
  · have h1n : g.1.length ≤ 1048576 := by unfold groundCost at hl; omega
    have h2n : g.2.length ≤ 1048576 := by unfold groundCost lLCost at hl; omega
    have hfn : ∀ f ∈ g.2, f.length ≤ 1048576 := fun f hf => by have := lLSum_le hf; unfold groundCost lLCost at hl; omega
    exact walk g x y (faceR g (x, y)) v w hv hn hl (fun u lo hi v h => sfaceat g v lo hi u h h1n h2n hfn x y) (fun u lo hi v h => ifaceat g v lo hi u h h1n h2n hfn x y)
  · exact big g x y v w hv hn (by omega)


set_option maxRecDepth 100000 in
theorem lifted (os : Os) (started : os.Started) (H : Type) (enc : TypeId × Value → H) :
    ReturnsInHanded {} Try.checked os 5 .any (Rows.fnExactFaceAtSpec.pre6 enc Try.prog Try.f5 Rows.fnExactFaceAtRow.domain false) (Rows.fnExactFaceAtSpec.post enc Try.prog Try.f5 false true false false) := by
  refine returnsInHanded_of_change (C := Try.checked) own started (by kernel_rfl) Try.func5
    (ChangeSpec.witness6 (enc := enc) (C := Try.checked) false ⟨#[], #[.agg #[.slice none 0 0, .slice none 0 0], .int .i64 0, .int .i64 0], []⟩ 8 (by kernel_rfl) (by kernel_rfl) (by kernel_rfl) (by kernel_rfl)) ?_
  intro W base args ds gs before hval0 hW hcnd _
  have hval : ∀ (j : Nat) t v, Try.f5.params[j]? = some t → args[j]? = some v → Value.okWide Try.prog W .any base t v := hval0
  have hW' := hW
  obtain ⟨p, q, hA0, hV, rfl, hfz, hnd⟩ := hW
  have hA : DataW.TrodAll enc Try.prog W 0 (fun _ => true) true Try.f5.params.toList args.toList ds p := hA0
  rw [Try.params5] at hA hval
  obtain ⟨v0, vs0, d0, ds0, p0, q0, hargs, rfl, rfl, h0, r0⟩ := trodAll_cons hA
  obtain ⟨v1, vs1, d1, ds1, p1, q1, rfl, rfl, rfl, h1, r1⟩ := trodAll_cons r0
  obtain ⟨v2, vs2, d2, ds2, p2, q2, rfl, rfl, rfl, h2, r2⟩ := trodAll_cons r1
  obtain ⟨rfl, rfl, rfl⟩ := trodAll_nil r2
  obtain rfl : args = #[v0, v1, v2] := by cases args; simp_all
  obtain ⟨rfl, rfl⟩ := trodVars_none hV
  obtain ⟨c0, hv0, hl0⟩ := open_ground (hval 0 41 v0 rfl rfl) h0
  obtain ⟨a1, rfl, rfl, rfl, w1⟩ := open_int Try.underlying3 (hval 1 3 v1 rfl rfl) h1
  obtain ⟨a2, rfl, rfl, rfl, w2⟩ := open_int Try.underlying3 (hval 2 3 v2 rfl rfl) h2
  clear hA0 hval0
  simp only [List.append_nil] at hW'
  refine (all c0 v0 hv0 hl0 a1 a2 W rfl).mono fun e W' ⟨he, hg⟩ => ?_
  subst he
  exact ⟨_, rfl, post_of_kept (pa := _) (pv := []) hW' (fun _ _ _ => (trodAll_cons_mk (shut_bool Try.underlying4 _) trodAll_mk0)) (fun sp hsp => (trodAll_cons_mk (kept_trod (by kernel_rfl) (of_decide_eq_true (by kernel_rfl)) h0 hg (fun x hx => hW'.lt x (by simp [hx])) (fun x hx => hsp x (by simp [hx]))) (trodAll_cons_mk (shut_int Try.underlying3 w1) (trodAll_cons_mk (shut_int Try.underlying3 w2) trodAll_mk0)))) (fun _ _ => rfl) hg⟩

theorem over : Rows.fnExactFaceAtRow.holds Try.pinned (OpenSpec.ofChange Rows.fnExactFaceAtSpec) :=
  OpenClaim.holds_of_wide 5 Try.f5 rfl rfl rfl rfl rfl rfl rfl ⟨rfl, rfl, rfl, rfl, rfl⟩ rfl rfl rfl rfl rfl (by kernel_rfl) Try.func5 (by kernel_rfl)
    (of_decide_eq_true (by kernel_rfl)) (by unfold Func.isWrapper; first | (rw [if_pos (by decide +kernel)]; kernel_rfl) | (rw [if_neg (by decide +kernel)]; exact ⟨rfl, rfl⟩))
    (fun os started H enc _ => lifted os started H enc)

theorem proved : Rows.FnExactFaceAtSaid :=
  over
#print axioms proved
end Go.Proofs.Ythohgehhoogpnaa.fnExactFaceAt
