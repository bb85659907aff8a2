/-
  At every ground and every list of faces the program's DoorsOf answers what the specification's DoorsOf answers, writes into no argument, and its answer is memory of its own.
-/
import Derived.Test.YthohgehhoogpnaaRows
import Derived.Test.YthohgehhoogpnaaDoorsS8
import Derived.Test.YthohgehhoogpnaaOpenG
import Derived.ChangeMaps
namespace Go.Proofs.Ythohgehhoogpnaa.fnExactDoorsOf
open Go.ChangeShapes Go.WideShapes Go.ChangeAt Go.RowKit
set_option linter.unusedVariables false

theorem own : ownKnob Try.prog.godebug = none := by kernel_rfl

set_option maxRecDepth 100000 in
set_option maxHeartbeats 8000000 in
theorem walk (g : GroundD) (ws : List NumD) (R : List (List NumD)) (jb : Bool) (v sv : Value) (w : World) (hv : GroundAt w v g) (hsv : NumAt w sv ws) (hn : GroundFit g) (hl : groundCost g ≤ 1048576) (hwn : ws.length ≤ 1048576) (hR : R.length ≤ 100000000) (hR2 : lLSum R ≤ 100000000)
    (hS : ∀ (u : World) (lo hi lo' hi' : Nat) (v sv : Value), GroundO u lo hi v g → NumO u lo' hi' sv ws → Calls Try.prog 13 #[v, sv] u fun e u' => (∃ v', e = .returned (.tuple #[v', .bool jb]) ∧ DLO u' u.heap.size u'.heap.size v' R) ∧ Kept u u')
    (hI : ∀ (u : World) (lo hi lo' hi' : Nat) (v sv : Value), GroundO u lo hi v g → NumO u lo' hi' sv ws → Calls Try.prog 32 #[v, sv] u fun e u' => (∃ v', e = .returned (.tuple #[v', .bool jb]) ∧ DLO u' u.heap.size u'.heap.size v' R) ∧ Kept u u') :
    Calls Try.prog 8 #[v, sv] w fun e w' => e = .returned (.bool true) ∧ Kept w w' := by
  obtain ⟨q0, hq0⟩ : ∃ q, 1 + 2 * g.1.length + lLSum g.2 = q := ⟨_, rfl⟩
  obtain ⟨q, hq1⟩ : ∃ q, q0 + ws.length = q := ⟨_, rfl⟩
  obtain ⟨q', hq2⟩ : ∃ q', 1 + lLSum R = q' := ⟨_, rfl⟩
  have hdq : decide ((q : Int) < 0) = false := by simp
  have hdq' : decide ((q' : Int) < 0) = false := by simp
  have HQ0 : Hid (1 + 2 * g.1.length + lLSum g.2 = q0) := hq0
  have HQ : Hid (q0 + ws.length = q) := hq1
  have HQ' : Hid (1 + lLSum R = q') := hq2
  have hRp : ∀ p ∈ R, p.length ≤ 9000000000000000000 := fun p hp => by have := lLSum_le hp; omega
  have hdn : decide ((1048576 : Int) < (ws.length : Int)) = false := by simp; omega
  clear hq0 hq1 hq2
  obtain ⟨sa, sc, hfs⟩ := row_nil hsv
  subst hfs
  have h1n : g.1.length ≤ 1048576 := by unfold groundCost at hl; omega
  have h2n : g.2.length ≤ 1048576 := by unfold groundCost lLCost at hl; omega
  have hfn : ∀ f ∈ g.2, f.length ≤ 1048576 := fun f hf => by have := lLSum_le hf; unfold groundCost lLCost at hl; omega
  have hsm : lLSum g.2 ≤ 1048576 := by unfold groundCost lLCost at hl; omega
  have hdl : decide ((1048576 : Int) - (groundCost g : Int) < 0) = false := by simp; omega
  obtain ⟨ap, cp, af, cf, hfm⟩ := hv.form
  subst hfm
  have HS : Hid _ := hS
  have HI : Hid _ := hI
  clear hS hI
  go_enter Try.func8, Try.ntmps8
  repeat (first | go_values | go_skip | go_guarded | go_step | go_upon)
  go_at_call 16
  refine (szGround g _ _ _ (hv.kept ((But.refl _ _ _).alloc _)) (by omega) (by omega) hn).mono ?_
  rintro e u1 ⟨rfl, k1⟩
  rw [leftOf_yes (by omega)]
  have K1 : Kept w u1 := ((But.refl _ _ _).alloc _).trans k1
  have La := (Loc.new w [.slice ap g.1.length cp, .slice af g.2.length cf] 41).kept k1
  have a0 := La.cell 0 rfl
  have a1 := La.cell 1 rfl
  have al := La.lt
  dsimp only
  repeat (first | go_values | go_skip | go_guarded | go_step | go_upon)
  go_at_call 18
  refine (toGround g _ _ (hv.kept K1) h1n h2n hfn).mono ?_
  rintro e u2 ⟨v2, rfl, o2, k2⟩
  have K2 := K1.trans k2
  have La := La.kept k2
  clear a0 a1 al
  obtain ⟨ap2, cp2, af2, cf2, hfm⟩ := o2.at.form
  subst hfm
  dsimp only
  repeat (first | go_values | go_skip | go_guarded | go_step | go_upon)
  go_at_call 31
  refine (toNumS ws _ _ (hsv.kept K2) hwn).mono ?_
  rintro e t2 ⟨x2, rfl, p2, l2⟩
  have K2 := K2.trans l2
  have La := La.kept l2
  have o2 := o2.kept l2
  obtain ⟨xa2, xc2, hfm⟩ := p2.form
  subst hfm
  dsimp only
  repeat (first | go_values | go_skip | go_guarded | go_step | go_upon)
  go_at_call 13
  refine (HS.out _ _ _ _ _ _ _ o2 p2).mono ?_
  rintro e u3 ⟨⟨v3, rfl, o3⟩, k3⟩
  have K3 := K2.trans k3
  have La := La.kept k3
  have HW : Hid (w.heap.size < u3.heap.size) := La.lt
  have a0 := La.cell 0 rfl
  have a1 := La.cell 1 rfl
  have al := La.lt
  clear o2 p2
  obtain ⟨ao3, cap3, hfm⟩ := o3.form
  subst hfm
  dsimp only
  repeat (first | go_values | go_skip | go_guarded | go_step | go_upon)
  go_at_call 18
  refine (toGround g _ _ (hv.kept K3) h1n h2n hfn).mono ?_
  rintro e u4 ⟨v4, rfl, o4, k4⟩
  have K4 := K3.trans k4
  have La := La.kept k4
  have o3 := o3.kept k4
  have s4 := k4.size
  clear a0 a1 al
  obtain ⟨ap4, cp4, af4, cf4, hfm⟩ := o4.at.form
  subst hfm
  dsimp only
  repeat (first | go_values | go_skip | go_guarded | go_step | go_upon)
  go_at_call 31
  refine (toNumS ws _ _ (hsv.kept (K4.alloc _)) hwn).mono ?_
  rintro e t4 ⟨x4, rfl, p4, l4⟩
  have j4 : Kept u4 t4 := ((But.refl _ _ u4).alloc _).trans l4
  have K4 := K4.trans j4
  have La := La.kept j4
  have Lx := (Loc.new u4 [.slice ap4 g.1.length cp4, .slice af4 g.2.length cf4] 26).kept l4
  have o3 := o3.kept j4
  have o4 := o4.kept j4
  have s41 := l4.size
  simp only [World.size_alloc] at s41 p4
  obtain ⟨xa4, xc4, hfm⟩ := p4.form
  subst hfm
  have b0 := Lx.cell 0 rfl
  have b1 := Lx.cell 1 rfl
  have bl := Lx.lt
  dsimp only
  repeat (first | go_values | go_skip | go_guarded | go_step | go_upon)
  go_at_call 32
  refine (HI.out _ _ _ _ _ _ _ o4 p4).mono ?_
  rintro e u5 ⟨⟨v5, rfl, o5⟩, k5⟩
  have K5 := K4.trans k5
  have La := La.kept k5
  have Lx := Lx.kept k5
  have o3 := o3.kept k5
  have o4 := o4.kept k5
  have p4 := p4.kept k5
  have s5 := k5.size
  clear b0 b1 bl
  obtain ⟨ao5, cap5, hfm⟩ := o5.form
  subst hfm
  dsimp only
  repeat (first | go_values | go_skip | go_guarded | go_step | go_upon)
  go_at_call 33
  refine (eqLL R _ _ _ o5.at o3.at (by omega) hRp).mono ?_
  rintro e u6 ⟨rfl, k6⟩
  have K6 := K5.trans k6
  have La := La.kept k6
  have Lx := Lx.kept k6
  have o3 := o3.kept k6
  have o4 := o4.kept k6
  have p4 := p4.kept k6
  have o5 := o5.kept k6
  have s6 := k6.size
  clear k1 k2 k3 k4 k5 k6 j4 K1 K2 K3 K4 K5 l2 l4
  have a0 := La.cell 0 rfl
  have a1 := La.cell 1 rfl
  have al := La.lt
  have b0 := Lx.cell 0 rfl
  have b1 := Lx.cell 1 rfl
  have bl := Lx.lt
  dsimp only
  repeat (first | go_values | go_skip | go_guarded | go_step | go_upon)
  go_region_held3 (fun w' => w'.cell? ⟨w.heap.size, 0, none⟩ = some (.slice ap g.1.length cp) ∧ w'.cell? ⟨w.heap.size, 1, none⟩ = some (.slice af g.2.length cf) ∧ w'.cell? ⟨u4.heap.size, 0, none⟩ = some (.slice ap4 g.1.length cp4) ∧ w'.cell? ⟨u4.heap.size, 1, none⟩ = some (.slice af4 g.2.length cf4)) (simp [go_sem, *])
    (first | (go_at_call 18; refine (toGround g _ _ (hv.kept K6.drew) h1n h2n hfn).mono ?_; rintro e u7 ⟨v7, rfl, o7, k7⟩; have j7 : Kept u6 u7 := ((But.refl _ _ u6).drew).trans k7; obtain ⟨ap7, cp7, af7, cf7, hfm⟩ := o7.at.form; subst hfm; have a0 := Kept.cell k7 a0; have a1 := Kept.cell k7 a1; have b0 := Kept.cell k7 b0; have b1 := Kept.cell k7 b1)
           | (go_at_call 20; refine (eqGround g _ _ _ (o4.at.kept j7) o7.at (by omega) (by omega) (fun p hp => Nat.le_trans (hfn p hp) (by omega))).mono ?_; rintro e u8 ⟨rfl, k8⟩; have a0 := Kept.cell k8 a0; have a1 := Kept.cell k8 a1; have b0 := Kept.cell k8 b0; have b1 := Kept.cell k8 b1))
  all_goals
    have j8 : Kept u6 u8 := j7.trans k8
    have K8 := K6.trans j8
    have La := La.kept j8
    have Lx := Lx.kept j8
    have o3 := o3.kept j8
    have o4 := o4.kept j8
    have p4 := p4.kept j8
    have o5 := o5.kept j8
    have s8 := j8.size
    have hWL := HW.out
    clear j7 j8 k7 k8 o7 a0 a1 al b0 b1 bl K6
    repeat (first | go_values | go_skip | go_guarded | go_step | go_upon)
    go_at_call 31
    refine (toNumS ws _ _ (hsv.kept K8) hwn).mono ?_
    rintro e t8 ⟨x8, rfl, p8, l8⟩
    have K8 := K8.trans l8
    have La := La.kept l8
    have Lx := Lx.kept l8
    have o3 := o3.kept l8
    have o4 := o4.kept l8
    have p4 := p4.kept l8
    have o5 := o5.kept l8
    have s81 := l8.size
    obtain ⟨xa8, xc8, hfm⟩ := p8.form
    subst hfm
    dsimp only
    repeat (first | go_values | go_skip | go_guarded | go_step | go_upon)
    go_at_call 25
    refine (eqNumS ws _ _ _ p4.at p8.at (by omega)).mono ?_
    rintro e t9 ⟨rfl, l9⟩
    have K8 := K8.trans l9
    have La := La.kept l9
    have Lx := Lx.kept l9
    have o3 := o3.kept l9
    have o4 := o4.kept l9
    have p4 := p4.kept l9
    have o5 := o5.kept l9
    have s82 := l9.size
    clear p8 l8 l9
    have b0 := Lx.cell 0 rfl
    have b1 := Lx.cell 1 rfl
    have bl := Lx.lt
    dsimp only
    repeat (first | go_values | go_skip | go_guarded | go_step | go_upon)
    go_at_call 26
    refine (markGround g _ 1 u3.heap.size u4.heap.size _ o4 (by omega) (by omega) (by omega)).mono ?_
    rintro e u9 ⟨rfl, k9⟩
    rw [HQ0.out]
    have K9 := K8.onto k9 (by omega)
    have La := La.but k9 (by have := La.lt; omega)
    have o3 := o3.but k9 (by omega)
    have p4 := p4.but k9 (by omega)
    have o5 := o5.but k9 (by omega)
    have s9 := k9.size
    clear k9 K8 o4 Lx b0 b1 bl
    dsimp only
    repeat (first | go_values | go_skip | go_guarded | go_step | go_upon)
    go_at_call 27
    refine (markNumS ws _ q0 (u4.heap.size + 1) t4.heap.size _ p4 (by have := HQ0.out; omega)).mono ?_
    rintro e u91 ⟨rfl, -, b91⟩
    rw [HQ.out]
    have k91 := b91.inner p4
    have K9 := K9.onto k91 (by omega)
    have La := La.but k91 (by have := La.lt; omega)
    have o3 := o3.but k91 (by omega)
    have o5 := o5.but k91 (by omega)
    have s91 := k91.size
    clear b91 k91 p4
    dsimp only
    repeat (first | go_values | go_skip | go_guarded | go_step | go_upon)
    go_at_call 33
    refine (eqLL R _ _ _ o5.at o3.at (by omega) hRp).mono ?_
    rintro e u10 ⟨rfl, k10⟩
    have K10 := K9.trans k10
    have La := La.kept k10
    have o3 := o3.kept k10
    have o5 := o5.kept k10
    have s10 := k10.size
    clear k10 K9
    dsimp only
    repeat (first | go_values | go_skip | go_guarded | go_step | go_upon)
    go_at_call 34
    refine (markDL R _ 1 t4.heap.size u5.heap.size _ o5 (by omega) (by omega)).mono ?_
    rintro e u11 ⟨rfl, o11, k11⟩
    rw [HQ'.out]
    have K11 := K10.onto k11 (by omega)
    have La := La.but k11 (by have := La.lt; omega)
    have o3 := o3.but k11 (by omega)
    have s11 := k11.size
    clear k11 K10 o5
    dsimp only
    repeat (first | go_values | go_skip | go_guarded | go_step | go_upon)
    go_at_call 35
    refine (heldLL R _ 1 _ o11.at (by omega) (by omega)).mono ?_
    rintro e u12 ⟨rfl, k12⟩
    rw [HQ'.out]
    have K12 := K11.trans k12
    have La := La.kept k12
    have o3 := o3.kept k12
    have o11 := o11.kept k12
    have s12 := k12.size
    clear k12 K11
    have a0 := La.cell 0 rfl
    have a1 := La.cell 1 rfl
    have al := La.lt
    dsimp only
    repeat (first | go_values | go_skip | go_guarded | go_step | go_upon)
    go_at_call 18
    refine (toGround g _ _ (hv.kept K12) h1n h2n hfn).mono ?_
    rintro e u13 ⟨v13, rfl, o13, k13⟩
    have K13 := K12.trans k13
    have o3 := o3.kept k13
    have o11 := o11.kept k13
    clear k13 K12 La
    clear a0 a1 al
    obtain ⟨ap13, cp13, af13, cf13, hfm⟩ := o13.at.form
    subst hfm
    dsimp only
    repeat (first | go_values | go_skip | go_guarded | go_step | go_upon)
    go_at_call 31
    refine (toNumS ws _ _ (hsv.kept K13) hwn).mono ?_
    rintro e t13 ⟨x13, rfl, p13, l13⟩
    have K13 := K13.trans l13
    have o3 := o3.kept l13
    have o11 := o11.kept l13
    have o13 := o13.kept l13
    obtain ⟨xa13, xc13, hfm⟩ := p13.form
    subst hfm
    dsimp only
    repeat (first | go_values | go_skip | go_guarded | go_step | go_upon)
    go_at_call 32
    refine (HI.out _ _ _ _ _ _ _ o13 p13).mono ?_
    rintro e u14 ⟨⟨v14, rfl, o14⟩, k14⟩
    have K14 := K13.trans k14
    have o3 := o3.kept k14
    have o11 := o11.kept k14
    clear k14 K13 o13 p13
    obtain ⟨ao14, cap14, hfm⟩ := o14.form
    subst hfm
    dsimp only
    repeat (first | go_values | go_skip | go_guarded | go_step | go_upon)
    go_at_call 33
    refine (eqLL R _ _ _ o14.at o3.at (by omega) hRp).mono ?_
    rintro e u15 ⟨rfl, k15⟩
    have K15 := K14.trans k15
    have o11 := o11.kept k15
    clear k15 K14 o14 o3
    dsimp only
    repeat (first | go_values | go_skip | go_guarded | go_step | go_upon)
    go_at_call 35
    refine (heldLL R _ 1 _ o11.at (by omega) (by omega)).mono ?_
    rintro e u16 ⟨rfl, k16⟩
    rw [HQ'.out]
    have K16 := K15.trans k16
    dsimp only
    repeat (first | go_values | go_skip | go_guarded | go_step | go_upon)
    go_ret
    exact ⟨rfl, K16⟩

set_option maxRecDepth 100000 in
set_option maxHeartbeats 1000000 in
theorem big (g : GroundD) (w : World) (ws : List NumD) (sv : Value) (hsv : NumAt w sv ws) (hwn : ws.length ≤ 1048576) (v : Value) (hv : GroundAt w v g) (hn : GroundFit g) (hl : 1048576 < groundCost g) :
    Calls Try.prog 8 #[v, sv] w fun e w' => e = .returned (.bool true) ∧ Kept w w' := by
  obtain ⟨ap, cp, af, cf, hfm⟩ := hv.form
  subst hfm
  obtain ⟨sa, sc, hfs⟩ := row_nil hsv
  subst hfs
  have hdn : decide ((1048576 : Int) < (ws.length : Int)) = false := by simp; omega
  go_enter Try.func8, Try.ntmps8
  repeat (first | go_values | go_skip | go_guarded | go_step | go_upon)
  go_at_call 16
  refine (szGround g _ _ _ (hv.kept (by repeat (first | with_reducible exact But.refl _ _ _ | with_reducible apply But.alloc))) (by omega) (by omega) hn).mono ?_
  rintro e u1 ⟨rfl, k1⟩
  rw [leftOf_no (by omega)]
  dsimp only
  repeat (first | go_values | go_skip | go_guarded | go_step | go_upon)
  go_ret
  refine ⟨rfl, But.trans ?_ k1⟩
  repeat (first | with_reducible exact But.refl _ _ _ | with_reducible apply But.alloc)

set_option maxRecDepth 100000 in
theorem long (ws : List NumD) (v sv : Value) (w : World) (hv : ∃ g, GroundAt w v g) (hsv : NumAt w sv ws) (hn : 1048576 < ws.length) (hn' : ws.length ≤ 9223372036854775807) :
    Calls Try.prog 8 #[v, sv] w fun e w' => e = .returned (.bool true) ∧ Kept w w' := by
  obtain ⟨g, hv⟩ := hv
  obtain ⟨ap, cp, af, cf, hfm⟩ := hv.form
  subst hfm
  obtain ⟨sa, sc, hfs⟩ := row_nil hsv
  subst hfs
  have hdn : decide ((1048576 : Int) < (ws.length : Int)) = true := by simp; omega
  go_enter Try.func8, Try.ntmps8
  repeat (first | go_values | go_skip | go_guarded | go_step | go_upon)
  go_ret
  exact ⟨rfl, (But.refl _ _ _).alloc _⟩
theorem least {p : Nat → Prop} (h : ∃ n, p n) : ∃ n, p n ∧ ∀ j, j < n → ¬ p j := by
  obtain ⟨n, hn⟩ := h
  induction n using Nat.strongRecOn with
  | _ n ih =>
    by_cases hj : ∃ j, j < n ∧ p j
    · obtain ⟨j, hj, hp⟩ := hj
      exact ih j hj hp
    · exact ⟨n, hn, fun j hj' hp => hj ⟨j, hj', hp⟩⟩
theorem sum_le (l : List (List NumD)) (h : ∀ p ∈ l, p.length ≤ 2) : lLSum l ≤ 2 * l.length := by
  induction l with
  | nil => simp [lLSum]
  | cons a l ih =>
    have h1 := h a (by simp)
    have h2 := ih fun p hp => h p (List.mem_cons_of_mem _ hp)
    simp [lLSum] at h2 ⊢
    omega
theorem doors_two (g : GroundD) (ws : List NumD) : ∀ p ∈ (doorsR g ws).1, p.length ≤ 2 := by
  intro p hp
  by_cases h : WayOk g ws
  · rw [doorsR_yes h] at hp
    obtain ⟨i, hi, rfl⟩ := List.mem_map.1 hp
    rw [List.mem_range] at hi
    have hs := (h.2.2.2 (i + 1) (by omega)).2.2 (by omega)
    rw [Nat.add_sub_cancel] at hs
    obtain ⟨d, hd⟩ : ∃ d, DoorIs (faceOf g ws i) (faceOf g ws (i + 1)) d true := by
      obtain ⟨m, p, q, hm⟩ := hs
      have : ∃ m, ∃ p q, DoorAt (faceOf g ws i) (faceOf g ws (i + 1)) m p q := ⟨m, p, q, hm⟩
      obtain ⟨m0, ⟨p0, q0, h0⟩, hmin⟩ := least this
      exact ⟨[p0, q0], .inr ⟨rfl, m0, p0, q0, h0, rfl, fun j p' q' hj hd => hmin j hj ⟨p', q', hd⟩⟩⟩
    rw [← doorD_is hd]
    rcases hd with ⟨h, _⟩ | ⟨_, _, _, _, _, rfl, _⟩
    · cases h
    · simp
  · rw [doorsR_no h] at hp
    cases hp
theorem all {w : World} (g : GroundD) (v : Value) (hv : GroundAt w v g) (hn : GroundFit g) (ws : List NumD) (sv : Value) (hsv : NumAt w sv ws) (_ : ∀ p ∈ ws, True) (hwm : ws.length ≤ maxLen) (w' : World) (_ : w' = w) :
    Calls Try.prog 8 #[v, sv] w fun e w' => e = .returned (.bool true) ∧ Kept w w' := by
  have hwm' : ws.length ≤ 9223372036854775807 := by unfold maxLen at hwm; omega
  by_cases hwn : ws.length ≤ 1048576
  · by_cases hl : groundCost g ≤ 1048576
    · have h1n : g.1.length ≤ 1048576 := by unfold groundCost at hl; omega
      have h2n : g.2.length ≤ 1048576 := by unfold groundCost lLCost at hl; omega
      have hfn : ∀ f ∈ g.2, f.length ≤ 1048576 := fun f hf => by have := lLSum_le hf; unfold groundCost lLCost at hl; omega
      have hR : (doorsR g ws).1.length ≤ 1048576 := by
        by_cases h : WayOk g ws
        · rw [doorsR_yes h]
          show (doorsM g ws ws.length).length ≤ _
          rw [doorsM_len]
          omega
        · rw [doorsR_no h]
          simp
      have hR2 := sum_le _ (doors_two g ws)
      exact walk g ws (doorsR g ws).1 (doorsR g ws).2 v sv w hv hsv hn hl hwn (by omega) (by omega) (fun u lo hi lo' hi' v sv h hs => sdoorsof g ws v sv lo hi lo' hi' u h hs h1n h2n hfn hwn) (fun u lo hi lo' hi' v sv h hs => idoorsof g ws v sv lo hi lo' hi' u h hs h1n h2n hfn hwn)
    · exact big g w ws sv hsv hwn v hv hn (by omega)
  · exact long ws v sv w ⟨g, hv⟩ hsv (by omega) hwm'


set_option maxRecDepth 100000 in
theorem lifted (os : Os) (started : os.Started) (H : Type) (enc : TypeId × Value → H) :
    ReturnsInHanded {} Try.checked os 8 .any (Rows.fnExactDoorsOfSpec.pre6 enc Try.prog Try.f8 Rows.fnExactDoorsOfRow.domain false) (Rows.fnExactDoorsOfSpec.post enc Try.prog Try.f8 false true false false) := by
  refine returnsInHanded_of_change (C := Try.checked) own started (by kernel_rfl) Try.func8
    (ChangeSpec.witness6 (enc := enc) (C := Try.checked) false ⟨#[], #[.agg #[.slice none 0 0, .slice none 0 0], .slice none 0 0], []⟩ 8 (by kernel_rfl) (by kernel_rfl) (by kernel_rfl) (by kernel_rfl)) ?_
  intro W base args ds gs before hval0 hW hcnd _
  have hval : ∀ (j : Nat) t v, Try.f8.params[j]? = some t → args[j]? = some v → Value.okWide Try.prog W .any base t v := hval0
  have hW' := hW
  obtain ⟨p, q, hA0, hV, rfl, hfz, hnd⟩ := hW
  have hA : DataW.TrodAll enc Try.prog W 0 (fun _ => true) true Try.f8.params.toList args.toList ds p := hA0
  rw [Try.params8] at hA hval
  obtain ⟨v0, vs0, d0, ds0, p0, q0, hargs, rfl, rfl, h0, r0⟩ := trodAll_cons hA
  obtain ⟨v1, vs1, d1, ds1, p1, q1, rfl, rfl, rfl, h1, r1⟩ := trodAll_cons r0
  obtain ⟨rfl, rfl, rfl⟩ := trodAll_nil r1
  obtain rfl : args = #[v0, v1] := by cases args; simp_all
  obtain ⟨rfl, rfl⟩ := trodVars_none hV
  obtain ⟨c0, hv0, hl0⟩ := open_ground (hval 0 41 v0 rfl rfl) h0
  obtain ⟨l1, hv1, hq1, hl1⟩ := open_numS (hval 1 27 v1 rfl rfl) h1
  clear hA0 hval0
  simp only [List.append_nil] at hW'
  refine (all c0 v0 hv0 hl0 l1 v1 hv1 hq1 hl1 W rfl).mono fun e W' ⟨he, hg⟩ => ?_
  subst he
  exact ⟨_, rfl, post_of_kept (pa := _) (pv := []) hW' (fun _ _ _ => (trodAll_cons_mk (shut_bool Try.underlying4 _) trodAll_mk0)) (fun sp hsp => (trodAll_cons_mk (kept_trod (by kernel_rfl) (of_decide_eq_true (by kernel_rfl)) h0 hg (fun x hx => hW'.lt x (by simp [hx])) (fun x hx => hsp x (by simp [hx]))) (trodAll_cons_mk (kept_trod (by kernel_rfl) (of_decide_eq_true (by kernel_rfl)) h1 hg (fun x hx => hW'.lt x (by simp [hx])) (fun x hx => hsp x (by simp [hx]))) trodAll_mk0))) (fun _ _ => rfl) hg⟩

theorem over : Rows.fnExactDoorsOfRow.holds Try.pinned (OpenSpec.ofChange Rows.fnExactDoorsOfSpec) :=
  OpenClaim.holds_of_wide 8 Try.f8 rfl rfl rfl rfl rfl rfl rfl ⟨rfl, rfl, rfl, rfl, rfl⟩ rfl rfl rfl rfl rfl (by kernel_rfl) Try.func8 (by kernel_rfl)
    (of_decide_eq_true (by kernel_rfl)) (by unfold Func.isWrapper; first | (rw [if_pos (by decide +kernel)]; kernel_rfl) | (rw [if_neg (by decide +kernel)]; exact ⟨rfl, rfl⟩))
    (fun os started H enc _ => lifted os started H enc)

theorem proved : Rows.FnExactDoorsOfSaid :=
  over
#print axioms proved
end Go.Proofs.Ythohgehhoogpnaa.fnExactDoorsOf
