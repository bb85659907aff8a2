/-
  At all fields, sorts and picks the program's AutoTile answers what the specification's AutoTile answers, and writes into no argument; its answer owns its memory.
-/
import Derived.Test.YtopakblckajdmaaRows
import Derived.Test.YtopakblckajdmaaAutoS14
import Derived.Test.YtopakblckajdmaaFieldG
import Derived.Test.YtopakblckajdmaaOpenF
import Derived.Test.YtopakblckajdmaaQuiet
import Derived.ChangeMaps
namespace Go.Proofs.Ytopakblckajdmaa.fnExactAutoTile
open Go.ChangeShapes Go.WideShapes Go.ChangeAt Go.RowKit
set_option linter.unusedVariables false

theorem own : ownKnob Try.prog.godebug = none := by kernel_rfl

set_option maxRecDepth 100000 in
set_option maxHeartbeats 16000000 in
theorem walk (f R : FieldD) (pk : List Int) (s : Int) (jb : Bool) (v pv : Value) (w : World) (hf : FieldAt w v f) (hp : NumAt w pv pk) (hn : f.2.2.length ≤ 1048576) (hnp : pk.length ≤ 1048576) (hR : R.2.2.length ≤ 100000000)
    (hS : ∀ (u : World) (v p : Value), FieldAt u v f → NumAt u p pk → Calls Try.prog 39 #[v, .int .i64 s, p] u fun e u' => ∃ v', e = .returned (.tuple #[v', .bool jb]) ∧ FieldO u' u.heap.size u'.heap.size v' R ∧ Kept u u')
    (hI : ∀ (u : World) (v p : Value), FieldAt u v f → NumAt u p pk → Calls Try.prog 41 #[v, .int .i64 s, p] u fun e u' => ∃ v', e = .returned (.tuple #[v', .bool jb]) ∧ FieldO u' u.heap.size u'.heap.size v' R ∧ Kept u u') :
    Calls Try.prog 10 #[v, .int .i64 s, pv] w fun e w' => e = .returned (.bool true) ∧ Kept w w' := by
  obtain ⟨q1, hq1⟩ : ∃ q, 1 + f.2.2.length = q := ⟨_, rfl⟩
  obtain ⟨q2, hq2⟩ : ∃ q, q1 + pk.length = q := ⟨_, rfl⟩
  obtain ⟨q3, hq3⟩ : ∃ q, 1 + R.2.2.length = q := ⟨_, rfl⟩
  have hdq : decide ((q2 : Int) < 0) = false := by simp
  have hdq' : decide ((q3 : Int) < 0) = false := by simp
  have HQ1 : Hid (1 + f.2.2.length = q1) := hq1
  have HQ2 : Hid (q1 + pk.length = q2) := hq2
  have HQ3 : Hid (1 + R.2.2.length = q3) := hq3
  have bq1 : q1 ≤ 2000000 := by omega
  clear hq1 hq2 hq3
  have hdl : decide ((1048576 : Int) - (f.2.2.length : Int) < 0) = false := by simp; omega
  have hdp : decide ((1048576 : Int) < (pk.length : Int)) = false := by simp; omega
  obtain ⟨ao, cap, hfm⟩ := hf.form
  subst hfm
  obtain ⟨ap, cp, hfm⟩ := row_nil hp
  subst hfm
  have HS : Hid (∀ (u : World) (v p : Value), FieldAt u v f → NumAt u p pk → Calls Try.prog 39 #[v, .int .i64 s, p] u fun e u' => ∃ v', e = .returned (.tuple #[v', .bool jb]) ∧ FieldO u' u.heap.size u'.heap.size v' R ∧ Kept u u') := hS
  have HI : Hid (∀ (u : World) (v p : Value), FieldAt u v f → NumAt u p pk → Calls Try.prog 41 #[v, .int .i64 s, p] u fun e u' => ∃ v', e = .returned (.tuple #[v', .bool jb]) ∧ FieldO u' u.heap.size u'.heap.size v' R ∧ Kept u u') := hI
  clear hS hI
  go_enter Try.func10, Try.ntmps10
  repeat (first | go_values | go_skip | go_guarded | go_step | go_upon)
  go_at_call 21
  refine (szField f _ _ _ (hf.kept ((But.refl _ _ _).alloc _)) (by omega) (by omega) (by omega)).mono ?_
  rintro e u1 ⟨rfl, k1⟩
  rw [leftOf_yes (by omega)]
  have K1 : Kept w u1 := ((But.refl _ _ _).alloc _).trans k1
  have La := (Loc.new w [.int .i64 f.1, .int .i64 f.2.1, .slice ao f.2.2.length cap] 44).kept k1
  clear k1
  have a0 := La.cell 0 rfl
  have a1 := La.cell 1 rfl
  have a2 := La.cell 2 rfl
  have al := La.lt
  dsimp only
  repeat (first | go_values | go_skip | go_guarded | go_step | go_upon)
  go_at_call 23
  refine (toField f _ _ (hf.kept K1) hn).mono ?_
  rintro e u2 ⟨v2, rfl, o2, k2⟩
  have K2 := K1.trans k2
  have La := La.kept k2
  clear a0 a1 a2 al
  clear k2 K1
  obtain ⟨ao2, cap2, hfm⟩ := o2.form
  subst hfm
  dsimp only
  repeat (first | go_values | go_skip | go_guarded | go_step | go_upon)
  go_at_call 40
  refine (toNumS pk _ _ (hp.kept K2) hnp).mono ?_
  rintro e u3 ⟨v3, rfl, o3, k3⟩
  have K3 := K2.trans k3
  have La := La.kept k3
  have o2 := o2.kept k3
  clear k3 K2
  obtain ⟨ap3, cp3, hfm⟩ := o3.form
  subst hfm
  dsimp only
  repeat (first | go_values | go_skip | go_guarded | go_step | go_upon)
  go_at_call 39
  refine (HS.out _ _ _ o2.at o3.at).mono ?_
  rintro e u4 ⟨v4, rfl, ow, k4⟩
  have K4 := K3.trans k4
  have La := La.kept k4
  have s4 := k4.size
  have hw4 := La.lt
  clear k4 K3 o2 o3
  have a0 := La.cell 0 rfl
  have a1 := La.cell 1 rfl
  have a2 := La.cell 2 rfl
  have al := La.lt
  obtain ⟨ao4, cap4, hfm⟩ := ow.form
  subst hfm
  dsimp only
  repeat (first | go_values | go_skip | go_guarded | go_step | go_upon)
  go_at_call 23
  refine (toField f _ _ (hf.kept (K4.alloc _)) hn).mono ?_
  rintro e u5 ⟨v5, rfl, ox, k5⟩
  have j5 : Kept u4 u5 := ((But.refl _ _ u4).alloc _).trans k5
  have K5 := K4.trans j5
  have La := La.kept j5
  have Lw := (Loc.new u4 [.int .i64 R.1, .int .i64 R.2.1, .slice ao4 R.2.2.length cap4] 28).kept k5
  have ow := ow.kept j5
  have s5 := j5.size
  have hw5 := Lw.lt
  simp only [World.size_alloc] at ox
  clear a0 a1 a2 al
  clear k5 j5 K4
  obtain ⟨ao5, cap5, hfm⟩ := ox.form
  subst hfm
  dsimp only
  repeat (first | go_values | go_skip | go_guarded | go_step | go_upon)
  go_at_call 40
  refine (toNumS pk _ _ (hp.kept (K5.alloc _)) hnp).mono ?_
  rintro e u6 ⟨v6, rfl, op, k6⟩
  have j6 : Kept u5 u6 := ((But.refl _ _ u5).alloc _).trans k6
  have K6 := K5.trans j6
  have La := La.kept j6
  have Lw := Lw.kept j6
  have Lx := (Loc.new u5 [.int .i64 f.1, .int .i64 f.2.1, .slice ao5 f.2.2.length cap5] 28).kept k6
  have ow := ow.kept j6
  have ox := ox.kept j6
  have s6 := j6.size
  have hw6 := Lx.lt
  simp only [World.size_alloc] at op
  clear k6 j6 K5
  obtain ⟨ap6, cp6, hfm⟩ := op.form
  subst hfm
  have x0 := Lx.cell 0 rfl
  have x1 := Lx.cell 1 rfl
  have x2 := Lx.cell 2 rfl
  have xl := Lx.lt
  dsimp only
  repeat (first | go_values | go_skip | go_guarded | go_step | go_upon)
  go_at_call 41
  refine (HI.out _ _ _ ox.at op.at).mono ?_
  rintro e u7 ⟨v7, rfl, og, k7⟩
  have K7 := K6.trans k7
  have La := La.kept k7
  have Lw := Lw.kept k7
  have Lx := Lx.kept k7
  have ow := ow.kept k7
  have ox := ox.kept k7
  have op := op.kept k7
  have s7 := k7.size
  clear x0 x1 x2 xl
  clear k7 K6
  obtain ⟨ao7, cap7, hfm⟩ := og.form
  subst hfm
  have x0 := Lw.cell 0 rfl
  have x1 := Lw.cell 1 rfl
  have x2 := Lw.cell 2 rfl
  have xl := Lw.lt
  dsimp only
  repeat (first | go_values | go_skip | go_guarded | go_step | go_upon)
  go_at_call 25
  refine (eqField R _ _ _ (og.at.kept ((But.refl _ _ u7).alloc _)) (ow.at.kept ((But.refl _ _ u7).alloc _)) (by omega)).mono ?_
  rintro e u8 ⟨rfl, k8⟩
  have j8 : Kept u7 u8 := ((But.refl _ _ u7).alloc _).trans k8
  have K8 := K7.trans j8
  have La := La.kept j8
  have Lw := Lw.kept j8
  have Lx := Lx.kept j8
  have Lg := (Loc.new u7 [.int .i64 R.1, .int .i64 R.2.1, .slice ao7 R.2.2.length cap7] 28).kept k8
  have ow := ow.kept j8
  have ox := ox.kept j8
  have op := op.kept j8
  have og := og.kept j8
  have s8 := j8.size
  have hw8 := Lg.lt
  clear x0 x1 x2 xl
  clear k8 j8 K7
  have a0 := La.cell 0 rfl
  have a1 := La.cell 1 rfl
  have a2 := La.cell 2 rfl
  have al := La.lt
  have b0 := Lx.cell 0 rfl
  have b1 := Lx.cell 1 rfl
  have b2 := Lx.cell 2 rfl
  have bl := Lx.lt
  dsimp only
  repeat (first | go_values | go_skip | go_guarded | go_step | go_upon)
  go_region_held3 (fun w' => w'.cell? ⟨w.heap.size, 0, none⟩ = some (.int .i64 f.1) ∧ w'.cell? ⟨w.heap.size, 1, none⟩ = some (.int .i64 f.2.1) ∧ w'.cell? ⟨w.heap.size, 2, none⟩ = some (.slice ao f.2.2.length cap) ∧ w'.cell? ⟨u5.heap.size, 0, none⟩ = some (.int .i64 f.1) ∧ w'.cell? ⟨u5.heap.size, 1, none⟩ = some (.int .i64 f.2.1) ∧ w'.cell? ⟨u5.heap.size, 2, none⟩ = some (.slice ao5 f.2.2.length cap5)) (simp [go_sem, *])
    (first | (go_at_call 23; refine (toField f _ _ (hf.kept (But.trans K8 (by (repeat (first | with_reducible exact But.refl _ _ _ | with_reducible apply But.drewN | with_reducible apply But.drew | with_reducible apply But.alloc | (with_reducible refine But.setNew ?_ (by simp; try omega) _)))))) hn).mono ?_; rintro e y7 ⟨v77, rfl, o77, k77⟩; obtain ⟨ao77, cap7, hfm⟩ := o77.form; subst hfm; have o77 := o77.at; have hc7 := k77.cell_eq; have hz7 := k77.size; (try simp at hz7); have n07 : w.heap.size < y7.heap.size := (by omega); have n17 : u5.heap.size < y7.heap.size := (by omega); have j7 : Kept u8 y7 := (But.trans (by (repeat (first | with_reducible exact But.refl _ _ _ | with_reducible apply But.drewN | with_reducible apply But.drew | with_reducible apply But.alloc | (with_reducible refine But.setNew ?_ (by simp; try omega) _)))) k77); have a07 := Kept.cell j7 a0; have a17 := Kept.cell j7 a1; have a27 := Kept.cell j7 a2; have b07 := Kept.cell j7 b0; have b17 := Kept.cell j7 b1; have b27 := Kept.cell j7 b2)
           | (go_at_call 25; refine (eqField f _ _ _ (FieldAt.kept ox.at (j7.trans (by (repeat (first | with_reducible exact But.refl _ _ _ | with_reducible apply But.drewN | with_reducible apply But.drew | with_reducible apply But.alloc | (with_reducible refine But.setNew ?_ (by simp; try omega) _)))))) (FieldAt.kept o77 (by (repeat (first | with_reducible exact But.refl _ _ _ | with_reducible apply But.drewN | with_reducible apply But.drew | with_reducible apply But.alloc | (with_reducible refine But.setNew ?_ (by simp; try omega) _))))) (by omega)).mono ?_; rintro e y8 ⟨rfl, k88⟩; have hc8 := k88.cell_eq; have hz8 := k88.size; (try simp at hz8); have n08 : w.heap.size < y8.heap.size := (by omega); have n18 : u5.heap.size < y8.heap.size := (by omega); have j8 : Kept u8 y8 := (But.trans (j7.trans (by (repeat (first | with_reducible exact But.refl _ _ _ | with_reducible apply But.drewN | with_reducible apply But.drew | with_reducible apply But.alloc | (with_reducible refine But.setNew ?_ (by simp; try omega) _))))) k88); have a08 := Kept.cell j8 a0; have a18 := Kept.cell j8 a1; have a28 := Kept.cell j8 a2; have b08 := Kept.cell j8 b0; have b18 := Kept.cell j8 b1; have b28 := Kept.cell j8 b2))
  all_goals
    have K9 := K8.trans j8
    have La := La.kept j8
    have Lw := Lw.kept j8
    have Lx := Lx.kept j8
    have Lg := Lg.kept j8
    have ow := ow.kept j8
    have ox := ox.kept j8
    have op := op.kept j8
    have og := og.kept j8
    have s9 := j8.size
    clear K8 j8 j7 k77 k88 o77 hc7 hc8 hz7 hz8 n07 n17 n08 n18 a07 a08 a17 a18 a27 a28 b07 b08 b17 b18 b27 b28
    clear a0 a1 a2 al b0 b1 b2 bl
    (try dsimp only)
    repeat (first | go_values | go_skip | go_guarded | go_step | go_upon)
    go_at_call 40
    refine (toNumS pk _ _ (hp.kept K9) hnp).mono ?_
    rintro e u10 ⟨v10, rfl, o10, k10⟩
    have K10 := K9.trans k10
    have La := La.kept k10
    have Lw := Lw.kept k10
    have Lx := Lx.kept k10
    have Lg := Lg.kept k10
    have ow := ow.kept k10
    have ox := ox.kept k10
    have op := op.kept k10
    have og := og.kept k10
    have s10 := k10.size
    clear k10 K9
    obtain ⟨ap10, cp10, hfm⟩ := o10.form
    subst hfm
    dsimp only
    repeat (first | go_values | go_skip | go_guarded | go_step | go_upon)
    go_at_call 29
    refine (eqNumS pk _ _ _ op.at o10.at (by omega)).mono ?_
    rintro e u11 ⟨rfl, k11⟩
    have K11 := K10.trans k11
    have La := La.kept k11
    have Lw := Lw.kept k11
    have Lx := Lx.kept k11
    have Lg := Lg.kept k11
    have ow := ow.kept k11
    have ox := ox.kept k11
    have op := op.kept k11
    have og := og.kept k11
    have s11 := k11.size
    clear k11 K10 o10
    have x0 := Lx.cell 0 rfl
    have x1 := Lx.cell 1 rfl
    have x2 := Lx.cell 2 rfl
    have xl := Lx.lt
    dsimp only
    repeat (first | go_values | go_skip | go_guarded | go_step | go_upon)
    go_at_call 31
    refine (markField f _ 1 (u4.heap.size + 1) u5.heap.size _ ox (by omega)).mono ?_
    rintro e u12 ⟨rfl, -, k12⟩
    rw [HQ1.out]
    have K12 := K11.onto k12 (by omega)
    have La := La.but k12 (by omega)
    have Lw := Lw.but k12 (by omega)
    have Lg := Lg.but k12 (by omega)
    have ow := ow.but k12 (by omega)
    have op := op.but k12 (by omega)
    have og := og.but k12 (by omega)
    have s12 := k12.size
    clear x0 x1 x2 xl
    clear k12 K11 ox Lx
    dsimp only
    repeat (first | go_values | go_skip | go_guarded | go_step | go_upon)
    go_at_call 32
    refine (markNumS pk _ q1 (u5.heap.size + 1) u6.heap.size _ op (by have := HQ2.out; omega)).mono ?_
    rintro e u13 ⟨rfl, -, b13⟩
    rw [HQ2.out]
    have k13 := b13.inner op
    have K13 := K12.onto k13 (by omega)
    have La := La.but k13 (by omega)
    have Lw := Lw.but k13 (by omega)
    have Lg := Lg.but k13 (by omega)
    have ow := ow.but k13 (by omega)
    have og := og.but k13 (by omega)
    have s13 := k13.size
    clear k13 b13 K12 op
    have x0 := Lw.cell 0 rfl
    have x1 := Lw.cell 1 rfl
    have x2 := Lw.cell 2 rfl
    have xl := Lw.lt
    have g0 := Lg.cell 0 rfl
    have g1 := Lg.cell 1 rfl
    have g2 := Lg.cell 2 rfl
    have gl := Lg.lt
    dsimp only
    repeat (first | go_values | go_skip | go_guarded | go_step | go_upon)
    go_at_call 25
    refine (eqField R _ _ _ og.at ow.at (by omega)).mono ?_
    rintro e u14 ⟨rfl, k14⟩
    have K14 := K13.trans k14
    have La := La.kept k14
    have Lw := Lw.kept k14
    have Lg := Lg.kept k14
    have ow := ow.kept k14
    have og := og.kept k14
    have s14 := k14.size
    clear k14 K13
    clear x0 x1 x2 xl g0 g1 g2 gl
    have g0 := Lg.cell 0 rfl
    have g1 := Lg.cell 1 rfl
    have g2 := Lg.cell 2 rfl
    have gl := Lg.lt
    dsimp only
    repeat (first | go_values | go_skip | go_guarded | go_step | go_upon)
    go_at_call 31
    refine (markField R _ 1 u6.heap.size u7.heap.size _ og (by omega)).mono ?_
    rintro e u15 ⟨rfl, o15, k15⟩
    rw [HQ3.out]
    have K15 := K14.onto k15 (by omega)
    have La := La.but k15 (by omega)
    have Lw := Lw.but k15 (by omega)
    have Lg := Lg.but k15 (by omega)
    have ow := ow.but k15 (by omega)
    have s15 := k15.size
    clear k15 K14 og
    clear g0 g1 g2 gl
    have g0 := Lg.cell 0 rfl
    have g1 := Lg.cell 1 rfl
    have g2 := Lg.cell 2 rfl
    have gl := Lg.lt
    dsimp only
    repeat (first | go_values | go_skip | go_guarded | go_step | go_upon)
    go_at_call 42
    refine (heldField R.1 R.2.1 R.2.2.length _ 1 _ o15.at (by omega)).mono ?_
    rintro e u16 ⟨rfl, k16⟩
    rw [HQ3.out]
    have K16 := K15.trans k16
    have La := La.kept k16
    have Lw := Lw.kept k16
    have Lg := Lg.kept k16
    have ow := ow.kept k16
    have o15 := o15.kept k16
    clear k16 K15
    clear g0 g1 g2 gl
    have a0 := La.cell 0 rfl
    have a1 := La.cell 1 rfl
    have a2 := La.cell 2 rfl
    have al := La.lt
    dsimp only
    repeat (first | go_values | go_skip | go_guarded | go_step | go_upon)
    go_at_call 23
    refine (toField f _ _ (hf.kept K16) hn).mono ?_
    rintro e u17 ⟨v17, rfl, o17, k17⟩
    have K17 := K16.trans k17
    have La := La.kept k17
    have Lw := Lw.kept k17
    have Lg := Lg.kept k17
    have ow := ow.kept k17
    have o15 := o15.kept k17
    clear a0 a1 a2 al
    clear k17 K16
    obtain ⟨ao17, cap17, hfm⟩ := o17.form
    subst hfm
    dsimp only
    repeat (first | go_values | go_skip | go_guarded | go_step | go_upon)
    go_at_call 40
    refine (toNumS pk _ _ (hp.kept K17) hnp).mono ?_
    rintro e u18 ⟨v18, rfl, o18, k18⟩
    have K18 := K17.trans k18
    have La := La.kept k18
    have Lw := Lw.kept k18
    have Lg := Lg.kept k18
    have ow := ow.kept k18
    have o15 := o15.kept k18
    have o17 := o17.kept k18
    clear k18 K17
    obtain ⟨ap18, cp18, hfm⟩ := o18.form
    subst hfm
    dsimp only
    repeat (first | go_values | go_skip | go_guarded | go_step | go_upon)
    go_at_call 41
    refine (HI.out _ _ _ o17.at o18.at).mono ?_
    rintro e u19 ⟨v19, rfl, oh, k19⟩
    have K19 := K18.trans k19
    have La := La.kept k19
    have Lw := Lw.kept k19
    have Lg := Lg.kept k19
    have ow := ow.kept k19
    have o15 := o15.kept k19
    clear k19 K18 o17 o18
    obtain ⟨ao19, cap19, hfm⟩ := oh.form
    subst hfm
    have x0 := Lw.cell 0 rfl
    have x1 := Lw.cell 1 rfl
    have x2 := Lw.cell 2 rfl
    have xl := Lw.lt
    dsimp only
    repeat (first | go_values | go_skip | go_guarded | go_step | go_upon)
    go_at_call 25
    refine (eqField R _ _ _ (oh.at.kept ((But.refl _ _ u19).alloc _)) (ow.at.kept ((But.refl _ _ u19).alloc _)) (by omega)).mono ?_
    rintro e u20 ⟨rfl, k20⟩
    have j20 : Kept u19 u20 := ((But.refl _ _ u19).alloc _).trans k20
    have K20 := K19.trans j20
    have Lg := Lg.kept j20
    have o15 := o15.kept j20
    clear x0 x1 x2 xl
    clear k20 j20 K19
    have g0 := Lg.cell 0 rfl
    have g1 := Lg.cell 1 rfl
    have g2 := Lg.cell 2 rfl
    have gl := Lg.lt
    dsimp only
    repeat (first | go_values | go_skip | go_guarded | go_step | go_upon)
    go_at_call 42
    refine (heldField R.1 R.2.1 R.2.2.length _ 1 _ o15.at (by omega)).mono ?_
    rintro e u21 ⟨rfl, k21⟩
    rw [HQ3.out]
    have K21 := K20.trans k21
    dsimp only
    repeat (first | go_values | go_skip | go_guarded | go_step | go_upon)
    go_ret
    exact ⟨rfl, K21⟩

set_option maxRecDepth 100000 in
set_option maxHeartbeats 1000000 in
theorem big1 (f : FieldD) (s : Int) (pk : List Int) (v pv : Value) (w : World) (hf : FieldAt w v f) (hp : NumAt w pv pk) (hl : 1048576 < pk.length) :
    Calls Try.prog 10 #[v, .int .i64 s, pv] w fun e w' => e = .returned (.bool true) ∧ Kept w w' := by
  obtain ⟨ao, cap, hfm⟩ := hf.form
  subst hfm
  obtain ⟨ap, cp, hfm⟩ := row_nil hp
  subst hfm
  have hdp : decide ((1048576 : Int) < (pk.length : Int)) = true := by simp; omega
  go_enter Try.func10, Try.ntmps10
  repeat (first | go_values | go_skip | go_guarded | go_step | go_upon)
  go_ret
  exact ⟨rfl, (But.refl _ _ _).alloc _⟩
set_option maxRecDepth 100000 in
set_option maxHeartbeats 1000000 in
theorem big2 (f : FieldD) (s : Int) (pk : List Int) (v pv : Value) (w : World) (hf : FieldAt w v f) (hp : NumAt w pv pk) (hnp : pk.length ≤ 1048576) (hn : f.2.2.length ≤ 9223372036854775807) (hl : 1048576 < f.2.2.length) :
    Calls Try.prog 10 #[v, .int .i64 s, pv] w fun e w' => e = .returned (.bool true) ∧ Kept w w' := by
  obtain ⟨ao, cap, hfm⟩ := hf.form
  subst hfm
  obtain ⟨ap, cp, hfm⟩ := row_nil hp
  subst hfm
  have hdp : decide ((1048576 : Int) < (pk.length : Int)) = false := by simp; omega
  go_enter Try.func10, Try.ntmps10
  repeat (first | go_values | go_skip | go_guarded | go_step | go_upon)
  go_at_call 21
  refine (szField f _ _ _ (hf.kept ((But.refl _ _ _).alloc _)) (by omega) (by omega) hn).mono ?_
  rintro e u1 ⟨rfl, k1⟩
  rw [leftOf_no (by omega)]
  dsimp only
  repeat (first | go_values | go_skip | go_guarded | go_step | go_upon)
  go_ret
  exact ⟨rfl, ((But.refl _ _ _).alloc _).trans k1⟩
theorem all (f : FieldD) (v : Value) {w : World} (hf : FieldAt w v f) (hm : f.2.2.length ≤ maxLen) (s : Int) (pk : List Int) (pv : Value) (hp : NumAt w pv pk) (_ : ∀ p ∈ pk, True) (hl0 : pk.length ≤ maxLen) (w' : World) (_ : w' = w) :
    Calls Try.prog 10 #[v, .int .i64 s, pv] w fun e w' => e = .returned (.bool true) ∧ Kept w w' := by
  have hm' : f.2.2.length ≤ 9223372036854775807 := by unfold maxLen at hm; omega
  by_cases hnp : pk.length ≤ 1048576
  · by_cases hl : f.2.2.length ≤ 1048576
    · exact walk f (autoA f s pk).1 pk s (autoA f s pk).2 v pv w hf hp hl hnp (autoA_len f s pk hl) (fun u v p h1 h2 => sauto v f s pk p u h1 h2 hl hnp) (fun u v p h1 h2 => iauto v f s pk p u h1 h2 hl hnp)
    · exact big2 f s pk v pv w hf hp hnp hm' (by omega)
  · exact big1 f s pk v pv w hf hp (by omega)


set_option maxRecDepth 100000 in
theorem lifted (os : Os) (started : os.Started) (H : Type) (enc : TypeId × Value → H) :
    ReturnsInHanded {} Try.checked os 10 .any (Rows.fnExactAutoTileSpec.pre6 enc Try.prog Try.f10 Rows.fnExactAutoTileRow.domain false) (Rows.fnExactAutoTileSpec.post enc Try.prog Try.f10 false true false false) := by
  refine returnsInHanded_of_change (C := Try.checked) own started (by kernel_rfl) Try.func10
    (ChangeSpec.witness6 (enc := enc) (C := Try.checked) false ⟨#[], #[.agg #[.int .i64 0, .int .i64 0, .slice none 0 0], .int .i64 0, .slice none 0 0], []⟩ 8 (by kernel_rfl) (by kernel_rfl) (by kernel_rfl) (by kernel_rfl)) ?_
  intro W base args ds gs before hval0 hW hcnd _
  have hval : ∀ (j : Nat) t v, Try.f10.params[j]? = some t → args[j]? = some v → Value.okWide Try.prog W .any base t v := hval0
  have hW' := hW
  obtain ⟨p, q, hA0, hV, rfl, hfz, hnd⟩ := hW
  have hA : DataW.TrodAll enc Try.prog W 0 (fun _ => true) true Try.f10.params.toList args.toList ds p := hA0
  rw [Try.params10] at hA hval
  obtain ⟨v0, vs0, d0, ds0, p0, q0, hargs, rfl, rfl, h0, r0⟩ := trodAll_cons hA
  obtain ⟨v1, vs1, d1, ds1, p1, q1, rfl, rfl, rfl, h1, r1⟩ := trodAll_cons r0
  obtain ⟨v2, vs2, d2, ds2, p2, q2, rfl, rfl, rfl, h2, r2⟩ := trodAll_cons r1
  obtain ⟨rfl, rfl, rfl⟩ := trodAll_nil r2
  obtain rfl : args = #[v0, v1, v2] := by cases args; simp_all
  obtain ⟨rfl, rfl⟩ := trodVars_none hV
  obtain ⟨c0, hv0, hl0⟩ := open_field (hval 0 44 v0 rfl rfl) h0
  obtain ⟨a1, rfl, rfl, rfl, w1⟩ := open_int Try.underlying3 (hval 1 3 v1 rfl rfl) h1
  obtain ⟨l2, hv2, hq2, hl2⟩ := open_numS (hval 2 26 v2 rfl rfl) h2
  clear hA0 hval0
  simp only [List.append_nil] at hW'
  refine (all c0 v0 hv0 hl0 a1 l2 v2 hv2 hq2 hl2 W rfl).mono fun e W' ⟨he, hg⟩ => ?_
  subst he
  exact ⟨_, rfl, post_of_kept (pa := _) (pv := []) hW' (fun _ _ _ => (trodAll_cons_mk (shut_bool Try.underlying4 _) trodAll_mk0)) (fun sp hsp => (trodAll_cons_mk (kept_trod (by kernel_rfl) (of_decide_eq_true (by kernel_rfl)) h0 hg (fun x hx => hW'.lt x (by simp [hx])) (fun x hx => hsp x (by simp [hx]))) (trodAll_cons_mk (shut_int Try.underlying3 w1) (trodAll_cons_mk (kept_trod (by kernel_rfl) (of_decide_eq_true (by kernel_rfl)) h2 hg (fun x hx => hW'.lt x (by simp [hx])) (fun x hx => hsp x (by simp [hx]))) trodAll_mk0)))) (fun _ _ => rfl) hg⟩

theorem over : Rows.fnExactAutoTileRow.holds Try.pinned (OpenSpec.ofChange Rows.fnExactAutoTileSpec) :=
  OpenClaim.holds_of_wide 10 Try.f10 rfl rfl rfl rfl rfl rfl rfl ⟨rfl, rfl, rfl, rfl, rfl⟩ rfl rfl rfl rfl rfl (by kernel_rfl) Try.func10 (by kernel_rfl)
    (of_decide_eq_true (by kernel_rfl)) (by unfold Func.isWrapper; first | (rw [if_pos (by decide +kernel)]; kernel_rfl) | (rw [if_neg (by decide +kernel)]; exact ⟨rfl, rfl⟩))
    (fun os started H enc _ => lifted os started H enc)

theorem proved : Rows.FnExactAutoTileSaid :=
  over
#print axioms proved
end Go.Proofs.Ytopakblckajdmaa.fnExactAutoTile
