/-
  At every ground and every two numbers of faces the program's FewestFaces answers what the specification's FewestFaces answers, writes into no argument, and its answer is memory of its own.
-/
import Derived.Test.YthohgehhoogpnaaRows
import Derived.Test.YthohgehhoogpnaaFewI8
import Derived.Test.YthohgehhoogpnaaOpenG
import Derived.ChangeMaps
namespace Go.Proofs.Ythohgehhoogpnaa.fnExactFewestFaces
open Go.ChangeShapes Go.WideShapes Go.ChangeAt Go.RowKit
set_option linter.unusedVariables false

theorem own : ownKnob Try.prog.godebug = none := by kernel_rfl

set_option maxRecDepth 100000 in
set_option maxHeartbeats 8000000 in
theorem walk (g : GroundD) (R : List NumD) (x y : Int) (jb : Bool) (v : Value) (w : World) (hv : GroundAt w v g) (hn : GroundFit g) (hl : groundCost g ≤ 1048576) (hR : R.length ≤ 100000000)
    (hS : ∀ (u : World) (lo hi : Nat) (v : Value), GroundO u lo hi v g → Calls Try.prog 29 #[v, .int .i64 x, .int .i64 y] u fun e u' => (∃ v', e = .returned (.tuple #[v', .bool jb]) ∧ NumO u' u.heap.size u'.heap.size v' R) ∧ Kept u u')
    (hI : ∀ (u : World) (lo hi : Nat) (v : Value), GroundO u lo hi v g → Calls Try.prog 30 #[v, .int .i64 x, .int .i64 y] u fun e u' => (∃ v', e = .returned (.tuple #[v', .bool jb]) ∧ NumO u' u.heap.size u'.heap.size v' R) ∧ Kept u u') :
    Calls Try.prog 7 #[v, .int .i64 x, .int .i64 y] w fun e w' => e = .returned (.bool true) ∧ Kept w w' := by
  obtain ⟨q, hq1⟩ : ∃ q, 1 + 2 * g.1.length + lLSum g.2 = q := ⟨_, rfl⟩
  obtain ⟨q', hq2⟩ : ∃ q', 1 + R.length = q' := ⟨_, rfl⟩
  have hdq : decide ((q : Int) < 0) = false := by simp
  have hdq' : decide ((q' : Int) < 0) = false := by simp
  have HQ : Hid (1 + 2 * g.1.length + lLSum g.2 = q) := hq1
  have HQ' : Hid (1 + R.length = q') := hq2
  clear hq1 hq2
  have h1n : g.1.length ≤ 1048576 := by unfold groundCost at hl; omega
  have h2n : g.2.length ≤ 1048576 := by unfold groundCost lLCost at hl; omega
  have hfn : ∀ f ∈ g.2, f.length ≤ 1048576 := fun f hf => by have := lLSum_le hf; unfold groundCost lLCost at hl; omega
  have hsm : lLSum g.2 ≤ 1048576 := by unfold groundCost lLCost at hl; omega
  have hdl : decide ((1048576 : Int) - (groundCost g : Int) < 0) = false := by simp; omega
  obtain ⟨ap, cp, af, cf, hfm⟩ := hv.form
  subst hfm
  have HS : Hid _ := hS
  have HI : Hid _ := hI
  clear hS hI
  go_enter Try.func7, Try.ntmps7
  repeat (first | go_values | go_skip | go_guarded | go_step | go_upon)
  go_at_call 16
  refine (szGround g _ _ _ (hv.kept ((But.refl _ _ _).alloc _)) (by omega) (by omega) hn).mono ?_
  rintro e u1 ⟨rfl, k1⟩
  rw [leftOf_yes (by omega)]
  have K1 : Kept w u1 := ((But.refl _ _ _).alloc _).trans k1
  have La := (Loc.new w [.slice ap g.1.length cp, .slice af g.2.length cf] 41).kept k1
  have a0 := La.cell 0 rfl
  have a1 := La.cell 1 rfl
  have al := La.lt
  dsimp only
  repeat (first | go_values | go_skip | go_guarded | go_step | go_upon)
  go_at_call 18
  refine (toGround g _ _ (hv.kept K1) h1n h2n hfn).mono ?_
  rintro e u2 ⟨v2, rfl, o2, k2⟩
  have K2 := K1.trans k2
  have La := La.kept k2
  clear a0 a1 al
  obtain ⟨ap2, cp2, af2, cf2, hfm⟩ := o2.at.form
  subst hfm
  dsimp only
  repeat (first | go_values | go_skip | go_guarded | go_step | go_upon)
  go_at_call 29
  refine (HS.out _ _ _ _ o2).mono ?_
  rintro e u3 ⟨⟨v3, rfl, o3⟩, k3⟩
  have K3 := K2.trans k3
  have La := La.kept k3
  have s3 := k3.size
  have HW : Hid (w.heap.size < u3.heap.size) := La.lt
  have a0 := La.cell 0 rfl
  have a1 := La.cell 1 rfl
  have al := La.lt
  clear o2
  obtain ⟨ao3, cap3, hfm⟩ := o3.form
  subst hfm
  dsimp only
  repeat (first | go_values | go_skip | go_guarded | go_step | go_upon)
  go_at_call 18
  refine (toGround g _ _ (hv.kept K3) h1n h2n hfn).mono ?_
  rintro e u4 ⟨v4, rfl, o4, k4⟩
  have K4 := K3.trans k4
  have La := La.kept k4
  have o3 := o3.kept k4
  have s4 := k4.size
  clear a0 a1 al
  obtain ⟨ap4, cp4, af4, cf4, hfm⟩ := o4.at.form
  subst hfm
  dsimp only
  repeat (first | go_values | go_skip | go_guarded | go_step | go_upon)
  go_at_call 30
  refine (HI.out _ _ _ _ (o4.kept ((But.refl _ _ u4).alloc _))).mono ?_
  rintro e u5 ⟨⟨v5, rfl, o5⟩, k5⟩
  have j5 : Kept u4 u5 := ((But.refl _ _ u4).alloc _).trans k5
  have K5 := K4.trans j5
  have La := La.kept j5
  have Lx := (Loc.new u4 [.slice ap4 g.1.length cp4, .slice af4 g.2.length cf4] 26).kept k5
  have o3 := o3.kept j5
  have o4 := o4.kept j5
  have s5 := k5.size
  simp only [World.size_alloc] at s5 o5
  obtain ⟨ao5, cap5, hfm⟩ := o5.form
  subst hfm
  dsimp only
  repeat (first | go_values | go_skip | go_guarded | go_step | go_upon)
  go_at_call 25
  refine (eqNumS R _ _ _ o5.at o3.at (by omega)).mono ?_
  rintro e u6 ⟨rfl, k6⟩
  have K6 := K5.trans k6
  have La := La.kept k6
  have Lx := Lx.kept k6
  have o3 := o3.kept k6
  have o4 := o4.kept k6
  have o5 := o5.kept k6
  have s6 := k6.size
  clear k1 k2 k3 k4 k5 k6 j5 K1 K2 K3 K4 K5
  have a0 := La.cell 0 rfl
  have a1 := La.cell 1 rfl
  have al := La.lt
  have b0 := Lx.cell 0 rfl
  have b1 := Lx.cell 1 rfl
  have bl := Lx.lt
  dsimp only
  repeat (first | go_values | go_skip | go_guarded | go_step | go_upon)
  go_region_held3 (fun w' => w'.cell? ⟨w.heap.size, 0, none⟩ = some (.slice ap g.1.length cp) ∧ w'.cell? ⟨w.heap.size, 1, none⟩ = some (.slice af g.2.length cf) ∧ w'.cell? ⟨u4.heap.size, 0, none⟩ = some (.slice ap4 g.1.length cp4) ∧ w'.cell? ⟨u4.heap.size, 1, none⟩ = some (.slice af4 g.2.length cf4)) (simp [go_sem, *])
    (first | (go_at_call 18; refine (toGround g _ _ (hv.kept K6.drew) h1n h2n hfn).mono ?_; rintro e u7 ⟨v7, rfl, o7, k7⟩; have j7 : Kept u6 u7 := ((But.refl _ _ u6).drew).trans k7; obtain ⟨ap7, cp7, af7, cf7, hfm⟩ := o7.at.form; subst hfm; have a0 := Kept.cell k7 a0; have a1 := Kept.cell k7 a1; have b0 := Kept.cell k7 b0; have b1 := Kept.cell k7 b1)
           | (go_at_call 20; refine (eqGround g _ _ _ (o4.at.kept j7) o7.at (by omega) (by omega) (fun p hp => Nat.le_trans (hfn p hp) (by omega))).mono ?_; rintro e u8 ⟨rfl, k8⟩; have a0 := Kept.cell k8 a0; have a1 := Kept.cell k8 a1; have b0 := Kept.cell k8 b0; have b1 := Kept.cell k8 b1))
  all_goals
    have j8 : Kept u6 u8 := j7.trans k8
    have K8 := K6.trans j8
    have La := La.kept j8
    have Lx := Lx.kept j8
    have o3 := o3.kept j8
    have o4 := o4.kept j8
    have o5 := o5.kept j8
    have s8 := j8.size
    have hWL := HW.out
    clear j7 j8 k7 k8 o7 a0 a1 al b0 b1 bl K6
    have b0 := Lx.cell 0 rfl
    have b1 := Lx.cell 1 rfl
    have bl := Lx.lt
    repeat (first | go_values | go_skip | go_guarded | go_step | go_upon)
    go_at_call 26
    refine (markGround g _ 1 u3.heap.size u4.heap.size _ o4 (by omega) (by omega) (by omega)).mono ?_
    rintro e u9 ⟨rfl, k9⟩
    rw [HQ.out]
    have K9 := K8.onto k9 (by omega)
    have La := La.but k9 (by have := La.lt; omega)
    have o3 := o3.but k9 (by omega)
    have o5 := o5.but k9 (by omega)
    have s9 := k9.size
    clear k9 K8 o4 Lx b0 b1 bl
    dsimp only
    repeat (first | go_values | go_skip | go_guarded | go_step | go_upon)
    go_at_call 25
    refine (eqNumS R _ _ _ o5.at o3.at (by omega)).mono ?_
    rintro e u10 ⟨rfl, k10⟩
    have K10 := K9.trans k10
    have La := La.kept k10
    have o3 := o3.kept k10
    have o5 := o5.kept k10
    have s10 := k10.size
    clear k10 K9
    dsimp only
    repeat (first | go_values | go_skip | go_guarded | go_step | go_upon)
    go_at_call 27
    refine (markNumS R _ 1 (u4.heap.size + 1) u5.heap.size _ o5 (by omega)).mono ?_
    rintro e u11 ⟨rfl, o11, b11⟩
    rw [HQ'.out]
    have k11 := b11.inner o5
    have K11 := K10.onto k11 (by omega)
    have La := La.but k11 (by have := La.lt; omega)
    have o3 := o3.but k11 (by omega)
    have s11 := k11.size
    clear b11 k11 K10 o5
    dsimp only
    repeat (first | go_values | go_skip | go_guarded | go_step | go_upon)
    go_at_call 28
    refine (heldNumS R.length _ 1 _ o11.at (by omega)).mono ?_
    rintro e u12 ⟨rfl, k12⟩
    rw [HQ'.out]
    have K12 := K11.trans k12
    have La := La.kept k12
    have o3 := o3.kept k12
    have o11 := o11.kept k12
    have s12 := k12.size
    clear k12 K11
    have a0 := La.cell 0 rfl
    have a1 := La.cell 1 rfl
    have al := La.lt
    dsimp only
    repeat (first | go_values | go_skip | go_guarded | go_step | go_upon)
    go_at_call 18
    refine (toGround g _ _ (hv.kept K12) h1n h2n hfn).mono ?_
    rintro e u13 ⟨v13, rfl, o13, k13⟩
    have K13 := K12.trans k13
    have o3 := o3.kept k13
    have o11 := o11.kept k13
    clear k13 K12 La
    clear a0 a1 al
    obtain ⟨ap13, cp13, af13, cf13, hfm⟩ := o13.at.form
    subst hfm
    dsimp only
    repeat (first | go_values | go_skip | go_guarded | go_step | go_upon)
    go_at_call 30
    refine (HI.out _ _ _ _ o13).mono ?_
    rintro e u14 ⟨⟨v14, rfl, o14⟩, k14⟩
    have K14 := K13.trans k14
    have o3 := o3.kept k14
    have o11 := o11.kept k14
    clear k14 K13 o13
    obtain ⟨ao14, cap14, hfm⟩ := o14.form
    subst hfm
    dsimp only
    repeat (first | go_values | go_skip | go_guarded | go_step | go_upon)
    go_at_call 25
    refine (eqNumS R _ _ _ o14.at o3.at (by omega)).mono ?_
    rintro e u15 ⟨rfl, k15⟩
    have K15 := K14.trans k15
    have o11 := o11.kept k15
    clear k15 K14 o14 o3
    dsimp only
    repeat (first | go_values | go_skip | go_guarded | go_step | go_upon)
    go_at_call 28
    refine (heldNumS R.length _ 1 _ o11.at (by omega)).mono ?_
    rintro e u16 ⟨rfl, k16⟩
    rw [HQ'.out]
    have K16 := K15.trans k16
    dsimp only
    repeat (first | go_values | go_skip | go_guarded | go_step | go_upon)
    go_ret
    exact ⟨rfl, K16⟩

set_option maxRecDepth 100000 in
set_option maxHeartbeats 1000000 in
theorem big (g : GroundD) (x y : Int) (v : Value) (w : World) (hv : GroundAt w v g) (hn : GroundFit g) (hl : 1048576 < groundCost g) :
    Calls Try.prog 7 #[v, .int .i64 x, .int .i64 y] w fun e w' => e = .returned (.bool true) ∧ Kept w w' := by
  obtain ⟨ap, cp, af, cf, hfm⟩ := hv.form
  subst hfm
  go_enter Try.func7, Try.ntmps7
  repeat (first | go_values | go_skip | go_guarded | go_step | go_upon)
  go_at_call 16
  refine (szGround g _ _ _ (hv.kept (by repeat (first | with_reducible exact But.refl _ _ _ | with_reducible apply But.alloc))) (by omega) (by omega) hn).mono ?_
  rintro e u1 ⟨rfl, k1⟩
  rw [leftOf_no (by omega)]
  dsimp only
  repeat (first | go_values | go_skip | go_guarded | go_step | go_upon)
  go_ret
  refine ⟨rfl, But.trans ?_ k1⟩
  repeat (first | with_reducible exact But.refl _ _ _ | with_reducible apply But.alloc)

theorem visit {g : GroundD} {to x d k : Nat} : ∀ (m : Nat) (far : Nat → Option Nat) (r : List Nat), Bfs g to far r k → r[k]? = some x → far x = some d → ∃ far' r', Bfs g to far' r' k ∧ r'[k]? = some x ∧ far' x = some d ∧ ∀ y, y < m → Adj g x y → ∃ e, far' y = some e
  | 0, far, r, h, hx, hd => ⟨far, r, h, hx, hd, fun y hy => by omega⟩
  | m + 1, far, r, h, hx, hd => by
    obtain ⟨far', r', h', hx', hd', hv⟩ := visit m far r h hx hd
    by_cases hm : Adj g x m ∧ far' m = none
    · have hne : x ≠ m := fun e => by have := hm.2; rw [← e, hd'] at this; cases this
      have hkl : k < r'.length := (List.getElem?_eq_some_iff.1 hx').1
      refine ⟨upd far' m (d + 1), r' ++ [m], h'.add hx' hd' hm.1 hm.2, by rw [List.getElem?_append_left hkl]; exact hx', by rw [upd_other hne]; exact hd', fun y hy ha => ?_⟩
      by_cases hym : y = m
      · exact ⟨d + 1, by rw [hym, upd_same]⟩
      · rw [upd_other hym]
        exact hv y (by omega) ha
    · refine ⟨far', r', h', hx', hd', fun y hy ha => ?_⟩
      by_cases hym : y = m
      · subst hym
        cases hf : far' y with
        | none => exact absurd ⟨ha, hf⟩ hm
        | some e => exact ⟨e, rfl⟩
      · exact hv y (by omega) ha
theorem fin_exists {g : GroundD} {to : Nat} : ∀ (j k : Nat) (far : Nat → Option Nat) (r : List Nat), Bfs g to far r k → g.2.length ≤ k + j → ∃ far, Fin8 g to far ∧ ∀ x d, far x = some d → d < g.2.length
  | 0, k, far, r, h, hj => ⟨far, h.done' (by have := h.len; omega), fun x d hd => (h.small hd).1⟩
  | j + 1, k, far, r, h, hj => by
    by_cases hk : r.length ≤ k
    · exact ⟨far, h.done' hk, fun x d hd => (h.small hd).1⟩
    · obtain ⟨x, hx⟩ : ∃ x, r[k]? = some x := ⟨_, List.getElem?_eq_getElem (by omega)⟩
      obtain ⟨d, hd, _, _⟩ := h.get hx
      obtain ⟨far', r', h', hx', hd', hv⟩ := visit g.2.length far r h hx hd
      exact fin_exists j (k + 1) far' r' (h'.next hx' hd' (fun y hy => hv y hy.1 hy)) (by omega)
theorem fin_small {g : GroundD} {x y d : Nat} (hg : GoodG g) (hy : y < g.2.length) (hx : x < g.2.length) (hd : farT g y x = some d) : d < 20 := by
  obtain ⟨far, hf, hs⟩ := fin_exists g.2.length 0 _ _ (bfs_start hy) (by omega)
  rw [← farT_eq hf hx] at hd
  have h1 := hs x d hd
  have h2 := hg.2.2.1
  omega
theorem few_len (g : GroundD) (x y : Int) : (fewR g x y).1.length ≤ 100000000 := by
  by_cases h : fewOk g x y
  · obtain ⟨hg, hx, hy, d, hd⟩ := h
    obtain ⟨X, hX⟩ : ∃ X : Nat, x = (X : Int) := ⟨x.toNat, by omega⟩
    obtain ⟨Y, hY⟩ : ∃ Y : Nat, y = (Y : Int) := ⟨y.toNat, by omega⟩
    subst hX hY
    simp only [Int.toNat_natCast] at hd
    have hXl : X < g.2.length := by omega
    have hYl : Y < g.2.length := by omega
    rw [fewR_yes hg hXl hYl hd]
    show (pathM g Y d X).length ≤ _
    rw [pathM_len]
    have h20 := fin_small hg hYl hXl hd
    omega
  · rw [fewR_no h]
    simp
theorem all {w : World} (g : GroundD) (v : Value) (hv : GroundAt w v g) (hn : GroundFit g) (x y : Int) (w' : World) (_ : w' = w) :
    Calls Try.prog 7 #[v, .int .i64 x, .int .i64 y] w fun e w' => e = .returned (.bool true) ∧ Kept w w' := by
  by_cases hl : groundCost g ≤ 1048576
  · have h1n : g.1.length ≤ 1048576 := by unfold groundCost at hl; omega
    have h2n : g.2.length ≤ 1048576 := by unfold groundCost lLCost at hl; omega
    have hfn : ∀ f ∈ g.2, f.length ≤ 1048576 := fun f hf => by have := lLSum_le hf; unfold groundCost lLCost at hl; omega
    exact walk g (fewR g x y).1 x y (fewR g x y).2 v w hv hn hl (few_len g x y) (fun u lo hi v h => sfew g v lo hi u h h1n h2n hfn x y) (fun u lo hi v h => ifew g v lo hi u h h1n h2n hfn x y)
  · exact big g x y v w hv hn (by omega)


set_option maxRecDepth 100000 in
theorem lifted (os : Os) (started : os.Started) (H : Type) (enc : TypeId × Value → H) :
    ReturnsInHanded {} Try.checked os 7 .any (Rows.fnExactFewestFacesSpec.pre6 enc Try.prog Try.f7 Rows.fnExactFewestFacesRow.domain false) (Rows.fnExactFewestFacesSpec.post enc Try.prog Try.f7 false true false false) := by
  refine returnsInHanded_of_change (C := Try.checked) own started (by kernel_rfl) Try.func7
    (ChangeSpec.witness6 (enc := enc) (C := Try.checked) false ⟨#[], #[.agg #[.slice none 0 0, .slice none 0 0], .int .i64 0, .int .i64 0], []⟩ 8 (by kernel_rfl) (by kernel_rfl) (by kernel_rfl) (by kernel_rfl)) ?_
  intro W base args ds gs before hval0 hW hcnd _
  have hval : ∀ (j : Nat) t v, Try.f7.params[j]? = some t → args[j]? = some v → Value.okWide Try.prog W .any base t v := hval0
  have hW' := hW
  obtain ⟨p, q, hA0, hV, rfl, hfz, hnd⟩ := hW
  have hA : DataW.TrodAll enc Try.prog W 0 (fun _ => true) true Try.f7.params.toList args.toList ds p := hA0
  rw [Try.params7] at hA hval
  obtain ⟨v0, vs0, d0, ds0, p0, q0, hargs, rfl, rfl, h0, r0⟩ := trodAll_cons hA
  obtain ⟨v1, vs1, d1, ds1, p1, q1, rfl, rfl, rfl, h1, r1⟩ := trodAll_cons r0
  obtain ⟨v2, vs2, d2, ds2, p2, q2, rfl, rfl, rfl, h2, r2⟩ := trodAll_cons r1
  obtain ⟨rfl, rfl, rfl⟩ := trodAll_nil r2
  obtain rfl : args = #[v0, v1, v2] := by cases args; simp_all
  obtain ⟨rfl, rfl⟩ := trodVars_none hV
  obtain ⟨c0, hv0, hl0⟩ := open_ground (hval 0 41 v0 rfl rfl) h0
  obtain ⟨a1, rfl, rfl, rfl, w1⟩ := open_int Try.underlying3 (hval 1 3 v1 rfl rfl) h1
  obtain ⟨a2, rfl, rfl, rfl, w2⟩ := open_int Try.underlying3 (hval 2 3 v2 rfl rfl) h2
  clear hA0 hval0
  simp only [List.append_nil] at hW'
  refine (all c0 v0 hv0 hl0 a1 a2 W rfl).mono fun e W' ⟨he, hg⟩ => ?_
  subst he
  exact ⟨_, rfl, post_of_kept (pa := _) (pv := []) hW' (fun _ _ _ => (trodAll_cons_mk (shut_bool Try.underlying4 _) trodAll_mk0)) (fun sp hsp => (trodAll_cons_mk (kept_trod (by kernel_rfl) (of_decide_eq_true (by kernel_rfl)) h0 hg (fun x hx => hW'.lt x (by simp [hx])) (fun x hx => hsp x (by simp [hx]))) (trodAll_cons_mk (shut_int Try.underlying3 w1) (trodAll_cons_mk (shut_int Try.underlying3 w2) trodAll_mk0)))) (fun _ _ => rfl) hg⟩

theorem over : Rows.fnExactFewestFacesRow.holds Try.pinned (OpenSpec.ofChange Rows.fnExactFewestFacesSpec) :=
  OpenClaim.holds_of_wide 7 Try.f7 rfl rfl rfl rfl rfl rfl rfl ⟨rfl, rfl, rfl, rfl, rfl⟩ rfl rfl rfl rfl rfl (by kernel_rfl) Try.func7 (by kernel_rfl)
    (of_decide_eq_true (by kernel_rfl)) (by unfold Func.isWrapper; first | (rw [if_pos (by decide +kernel)]; kernel_rfl) | (rw [if_neg (by decide +kernel)]; exact ⟨rfl, rfl⟩))
    (fun os started H enc _ => lifted os started H enc)

theorem proved : Rows.FnExactFewestFacesSaid :=
  over
#print axioms proved
end Go.Proofs.Ythohgehhoogpnaa.fnExactFewestFaces
