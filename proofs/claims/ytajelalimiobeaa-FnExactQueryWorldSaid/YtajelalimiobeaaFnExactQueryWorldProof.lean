/-
  At every world and every query the program's QueryWorld answers what the specification's QueryWorld answers, writes into no argument, and its answer owns its memory.
-/
import Derived.Test.YtajelalimiobeaaRows
import Derived.Test.YtajelalimiobeaaAnsS
import Derived.Test.YtajelalimiobeaaMarksE
import Derived.Test.YtajelalimiobeaaHeld
import Derived.Test.YtajelalimiobeaaLaw
import Derived.ChangeMaps
namespace Go.Proofs.Ytajelalimiobeaa.fnExactQueryWorld
open Go.ChangeShapes Go.WideShapes Go.ChangeAt Go.RowKit
set_option linter.unusedVariables false

theorem own : ownKnob Try.prog.godebug = none := by kernel_rfl

set_option maxRecDepth 100000 in
set_option maxHeartbeats 8000000 in
theorem walk (D : WD) (Q : QD) (ids : List Int) (b : Bool) (v v' : Value) (w : World) (hv : WAt w v D) (hq : QAt w v' Q) (hl : ecost D.2.2 + qcost Q ≤ 1048576) (hf : Fits D.2.2) (hf' : FitsQ Q) (hn : ids.length ≤ 60)
    (hS : ∀ (u : World) (v v' : Value), WAt u v D → QAt u v' Q → Calls Try.prog 15 #[v, v'] u fun e u' => ∃ r, e = .returned (.tuple #[r, .bool b]) ∧ OneO cI 3 u' u.heap.size u'.heap.size r ids ∧ Kept u u')
    (hI : ∀ (u : World) (v v' : Value), WAt u v D → QAt u v' Q → Calls Try.prog 14 #[v, v'] u fun e u' => ∃ r, e = .returned (.tuple #[r, .bool b]) ∧ OneO cI 3 u' u.heap.size u'.heap.size r ids ∧ Kept u u') :
    Calls Try.prog 11 #[v, v'] w fun e w' => e = .returned (.bool true) ∧ Kept w w' := by
  have hlD : ecost D.2.2 ≤ 1048576 := by omega
  have hlQ : qcost Q ≤ 1048576 := by omega
  have hs := small_of hlD
  have hb := kcnt_of hlD
  obtain ⟨ao, n, cap, hfm⟩ := hv.form
  subst hfm
  obtain ⟨q1, m1, c1, q2, m2, c2, hfm⟩ := hq.form
  subst hfm
  have HS : Hid _ := hS
  have HI : Hid _ := hI
  clear hS hI
  go_enter Try.func11, Try.ntmps11
  go_wp2_with fail
  go_at_call 24; refine (szWorld D _ _ _ (hv.kept (((But.refl _ _ _).alloc _).alloc _)) (by omega) (by omega) hf).mono ?_; rintro e u1 ⟨rfl, k1⟩
  rw [leftOf_yes (by omega)]
  have hdl : decide ((1048576 : Int) - (ecost D.2.2 : Int) < 0) = false := by simp; omega
  have K1 : Kept w u1 := (((But.refl _ _ _).alloc _).alloc _).trans k1
  have La := ((Loc.new w [.int .i64 D.1, .int .i64 D.2.1, .slice ao n cap] 51).alloc (.cells #[.slice q1 m1 c1, .slice q2 m2 c2, .int .i64 Q.2.2] 66)).kept k1
  have Lb := (Loc.new (w.alloc (.cells #[.int .i64 D.1, .int .i64 D.2.1, .slice ao n cap] 51)) [.slice q1 m1 c1, .slice q2 m2 c2, .int .i64 Q.2.2] 66).kept k1
  have s1 := k1.size
  simp only [World.size_alloc] at s1 Lb
  have b0 := Lb.cell 0 rfl
  have b1 := Lb.cell 1 rfl
  have b2 := Lb.cell 2 rfl
  clear k1
  go_wp2_with fail
  go_at_call 38; refine (szQuery Q _ _ _ (hq.kept K1) (by omega) (by omega) hf').mono ?_; rintro e u2 ⟨rfl, k2⟩
  rw [leftOf_yes (by omega)]
  have hdl2 : decide ((1048576 : Int) - (ecost D.2.2 : Int) - (qcost Q : Int) < 0) = false := by simp; omega
  have K2 := K1.trans k2
  have La := La.kept k2
  have Lb := Lb.kept k2
  have s2 := k2.size
  clear b0 b1 b2 k2 K1
  have a0 := La.cell 0 rfl
  have a1 := La.cell 1 rfl
  have a2 := La.cell 2 rfl
  go_wp2_with fail
  have b0 := Lb.cell 0 rfl
  have b1 := Lb.cell 1 rfl
  have b2 := Lb.cell 2 rfl
  go_region_held3 (fun w' => w'.cell? ⟨w.heap.size, 0, none⟩ = some (.int .i64 D.1) ∧ w'.cell? ⟨w.heap.size, 1, none⟩ = some (.int .i64 D.2.1) ∧ w'.cell? ⟨w.heap.size, 2, none⟩ = some (.slice ao n cap) ∧ w'.cell? ⟨w.heap.size + 1, 0, none⟩ = some (.slice q1 m1 c1) ∧ w'.cell? ⟨w.heap.size + 1, 1, none⟩ = some (.slice q2 m2 c2) ∧ w'.cell? ⟨w.heap.size + 1, 2, none⟩ = some (.int .i64 Q.2.2)) (simp [go_sem, *])
    (first | (go_at_call 26; refine (toWorld D _ _ (hv.kept K2.drew) hlD).mono ?_; rintro e u3 ⟨v3, rfl, o3, k3⟩; have j3 : Kept u2 u3 := ((But.refl _ _ u2).drew).trans k3; obtain ⟨ao3, n3, cap3, hfm⟩ := o3.form; subst hfm; have a0 := Kept.cell k3 a0; have a1 := Kept.cell k3 a1; have a2 := Kept.cell k3 a2; have b0 := Kept.cell k3 b0; have b1 := Kept.cell k3 b1; have b2 := Kept.cell k3 b2)
           | (go_at_call 39; refine (toQuery Q _ _ (hq.kept (K2.trans j3)) hlQ).mono ?_; rintro e u4 ⟨v4, rfl, o4, k4⟩; obtain ⟨x1, y1, z1, x2, y2, z2, hfm⟩ := o4.at.form; subst hfm; have a0 := Kept.cell k4 a0; have a1 := Kept.cell k4 a1; have a2 := Kept.cell k4 a2; have b0 := Kept.cell k4 b0; have b1 := Kept.cell k4 b1; have b2 := Kept.cell k4 b2)
           | (go_at_call 15; refine (HS.out _ _ _ (o3.at.kept k4) o4.at).mono ?_; rintro e u5 ⟨v5, rfl, o5, k5⟩; have a0 := Kept.cell k5 a0; have a1 := Kept.cell k5 a1; have a2 := Kept.cell k5 a2; have b0 := Kept.cell k5 b0; have b1 := Kept.cell k5 b1; have b2 := Kept.cell k5 b2))
  have j5 := j3.trans (k4.trans k5)
  have K5 := K2.trans j5
  have La := La.kept j5
  have Lb := Lb.kept j5
  have s5 := j5.size
  have s4 := k5.size
  have s3 := k4.size
  obtain ⟨ao5, cap5, hfm⟩ := o5.form
  subst hfm
  clear k3 k4 k5 j3 j5 o3 o4 K2 hdl hdl2
  clear a0 a1 a2 b0 b1 b2
  clear a0 a1 a2 b0 b1 b2
  clear a0 a1 a2 b0 b1 b2
  clear a0 a1 a2 b0 b1 b2
  have a0 := La.cell 0 rfl
  have a1 := La.cell 1 rfl
  have a2 := La.cell 2 rfl
  go_wp2_with fail
  go_at_call 26; refine (toWorld D _ _ (hv.kept K5) hlD).mono ?_; rintro e u6 ⟨v6, rfl, o6, k6⟩
  have K6 := K5.trans k6
  have La := La.kept k6
  have Lb := Lb.kept k6
  have o5 := o5.kept k6
  have s6 := k6.size
  obtain ⟨ao6, n6, cap6, hfm⟩ := o6.form
  subst hfm
  clear a0 a1 a2 k6 K5
  have b0 := Lb.cell 0 rfl
  have b1 := Lb.cell 1 rfl
  have b2 := Lb.cell 2 rfl
  have lb := Lb.lt
  go_wp2_with fail
  go_at_call 39; refine (toQuery Q _ _ (hq.kept (K6.alloc _)) hlQ).mono ?_; rintro e u7 ⟨v7, rfl, o7, k7⟩
  have j7 : Kept u6 u7 := ((But.refl _ _ u6).alloc _).trans k7
  have Lx := (Loc.new u6 [.int .i64 D.1, .int .i64 D.2.1, .slice ao6 n6 cap6] 25).kept k7
  have K7 := K6.trans j7
  have La := La.kept j7
  have Lb := Lb.kept j7
  have o5 := o5.kept j7
  have o6 := o6.kept j7
  have s7 := k7.size
  simp only [World.size_alloc] at s7 o7
  obtain ⟨x1, y1, z1, x2, y2, z2, hfm⟩ := o7.at.form
  subst hfm
  clear b0 b1 b2 k7 j7 K6 lb
  have c0 := Lx.cell 0 rfl
  have c1' := Lx.cell 1 rfl
  have c2' := Lx.cell 2 rfl
  have lx := Lx.lt
  go_wp2_with fail
  go_at_call 14; refine (HI.out _ _ _ (o6.at.kept ((But.refl _ _ u7).alloc _)) (o7.at.kept ((But.refl _ _ u7).alloc _))).mono ?_; rintro e u8 ⟨v8, rfl, o8, k8⟩
  have j8 : Kept u7 u8 := ((But.refl _ _ u7).alloc _).trans k8
  have Ly := (Loc.new u7 [.slice x1 y1 z1, .slice x2 y2 z2, .int .i64 Q.2.2] 28).kept k8
  have K8 := K7.trans j8
  have La := La.kept j8
  have Lb := Lb.kept j8
  have Lx := Lx.kept j8
  have o5 := o5.kept j8
  have o6 := o6.kept j8
  have o7 := o7.kept j8
  have s8 := k8.size
  simp only [World.size_alloc] at s8 o8
  obtain ⟨ao8, cap8, hfm⟩ := o8.form
  subst hfm
  clear c0 c1' c2' k8 j8 K7 lx
  go_wp2_with fail
  go_at_call 40; refine (eqIntS ids _ _ _ o8.at o5.at (by omega)).mono ?_; rintro e u9 ⟨rfl, k9⟩
  have K9 := K8.trans k9
  have La := La.kept k9
  have Lb := Lb.kept k9
  have Lx := Lx.kept k9
  have Ly := Ly.kept k9
  have o5 := o5.kept k9
  have o6 := o6.kept k9
  have o7 := o7.kept k9
  have o8 := o8.kept k9
  have s9 := k9.size
  clear k9 K8
  have a0 := La.cell 0 rfl
  have a1 := La.cell 1 rfl
  have a2 := La.cell 2 rfl
  have d0 := Lx.cell 0 rfl
  have d1 := Lx.cell 1 rfl
  have d2 := Lx.cell 2 rfl
  cases b
  all_goals
    go_wp2_with fail
    go_region_held3 (fun w' => w'.cell? ⟨w.heap.size, 0, none⟩ = some (.int .i64 D.1) ∧ w'.cell? ⟨w.heap.size, 1, none⟩ = some (.int .i64 D.2.1) ∧ w'.cell? ⟨w.heap.size, 2, none⟩ = some (.slice ao n cap) ∧ w'.cell? ⟨u6.heap.size, 0, none⟩ = some (.int .i64 D.1) ∧ w'.cell? ⟨u6.heap.size, 1, none⟩ = some (.int .i64 D.2.1) ∧ w'.cell? ⟨u6.heap.size, 2, none⟩ = some (.slice ao6 n6 cap6)) (simp [go_sem, *])
      (first | (go_at_call 26; refine (toWorld D _ _ (hv.kept K9.drew) hlD).mono ?_; rintro e u10 ⟨v10, rfl, o10, k10⟩; have j10 : Kept u9 u10 := ((But.refl _ _ u9).drew).trans k10; obtain ⟨ao10, n10, cap10, hfm⟩ := o10.form; subst hfm; have a0 := Kept.cell k10 a0; have a1 := Kept.cell k10 a1; have a2 := Kept.cell k10 a2; have d0 := Kept.cell k10 d0; have d1 := Kept.cell k10 d1; have d2 := Kept.cell k10 d2)
             | (go_at_call 21; refine (eqWorld D _ _ _ (o6.at.kept j10) o10.at hs).mono ?_; rintro e u11 ⟨rfl, k11⟩; have a0 := Kept.cell k11 a0; have a1 := Kept.cell k11 a1; have a2 := Kept.cell k11 a2; have d0 := Kept.cell k11 d0; have d1 := Kept.cell k11 d1; have d2 := Kept.cell k11 d2))
  all_goals
    have j11 : Kept u9 u11 := j10.trans k11
    have K11 := K9.trans j11
    have La := La.kept j11
    have Lb := Lb.kept j11
    have Lx := Lx.kept j11
    have Ly := Ly.kept j11
    have o5 := o5.kept j11
    have o6 := o6.kept j11
    have o7 := o7.kept j11
    have o8 := o8.kept j11
    have s11 := j11.size
    clear j10 j11 k10 k11 o10 K9 a0 a1 a2 d0 d1 d2
    have b0 := Lb.cell 0 rfl
    have b1 := Lb.cell 1 rfl
    have b2 := Lb.cell 2 rfl
    have d0 := Ly.cell 0 rfl
    have d1 := Ly.cell 1 rfl
    have d2 := Ly.cell 2 rfl
    go_wp2_with fail
    go_region_held3 (fun w' => w'.cell? ⟨w.heap.size + 1, 0, none⟩ = some (.slice q1 m1 c1) ∧ w'.cell? ⟨w.heap.size + 1, 1, none⟩ = some (.slice q2 m2 c2) ∧ w'.cell? ⟨w.heap.size + 1, 2, none⟩ = some (.int .i64 Q.2.2) ∧ w'.cell? ⟨u7.heap.size, 0, none⟩ = some (.slice x1 y1 z1) ∧ w'.cell? ⟨u7.heap.size, 1, none⟩ = some (.slice x2 y2 z2) ∧ w'.cell? ⟨u7.heap.size, 2, none⟩ = some (.int .i64 Q.2.2)) (simp [go_sem, *])
      (first | (go_at_call 39; refine (toQuery Q _ _ (hq.kept K11.drew) hlQ).mono ?_; rintro e u12 ⟨v12, rfl, o12, k12⟩; have j12 : Kept u11 u12 := ((But.refl _ _ u11).drew).trans k12; obtain ⟨xx1, yy1, zz1, xx2, yy2, zz2, hfm⟩ := o12.at.form; subst hfm; have b0 := Kept.cell k12 b0; have b1 := Kept.cell k12 b1; have b2 := Kept.cell k12 b2; have d0 := Kept.cell k12 d0; have d1 := Kept.cell k12 d1; have d2 := Kept.cell k12 d2)
             | (go_at_call 41; refine (eqQuery Q _ _ _ (o7.at.kept j12) o12.at hlQ).mono ?_; rintro e u13 ⟨rfl, k13⟩; have b0 := Kept.cell k13 b0; have b1 := Kept.cell k13 b1; have b2 := Kept.cell k13 b2; have d0 := Kept.cell k13 d0; have d1 := Kept.cell k13 d1; have d2 := Kept.cell k13 d2))
    have j13 : Kept u11 u13 := j12.trans k13
    have K13 := K11.trans j13
    have La := La.kept j13
    have Lb := Lb.kept j13
    have Lx := Lx.kept j13
    have Ly := Ly.kept j13
    have o5 := o5.kept j13
    have o6 := o6.kept j13
    have o7 := o7.kept j13
    have o8 := o8.kept j13
    have s13 := j13.size
    clear j12 j13 k12 k13 o12 K11 b0 b1 b2 d0 d1 d2
    have c0 := Lx.cell 0 rfl
    have c1' := Lx.cell 1 rfl
    have c2' := Lx.cell 2 rfl
    go_wp2_with fail
    go_at_call 22; refine (markWorld D _ 1 u5.heap.size u6.heap.size _ o6 (by omega)).mono ?_; rintro e u14 ⟨rfl, -, k14⟩
    have K14 := K13.onto k14 (by omega)
    have La := La.but k14 (by omega)
    have Lb := Lb.but k14 (by omega)
    have Ly := Ly.but k14 (by omega)
    have o5 := o5.but k14 (by omega)
    have o7 := o7.but k14 (by omega)
    have o8 := o8.but k14 (by omega)
    have s14 := k14.size
    clear k14 K13 o6 Lx c0 c1' c2'
    have d0 := Ly.cell 0 rfl
    have d1 := Ly.cell 1 rfl
    have d2 := Ly.cell 2 rfl
    go_wp2_with fail
    go_at_call 42; refine (markQuery Q _ (1 + kcnt D.2.2) (u6.heap.size + 1) u7.heap.size _ o7 (by omega)).mono ?_; rintro e u15 ⟨⟨m, rfl⟩, k15⟩
    have K15 := K14.onto k15 (by omega)
    have La := La.but k15 (by omega)
    have Lb := Lb.but k15 (by omega)
    have o5 := o5.but k15 (by omega)
    have o8 := o8.but k15 (by omega)
    have s15 := k15.size
    have hdm : decide ((m : Int) < 0) = false := by simp
    clear k15 K14 o7 Ly d0 d1 d2
    go_wp2_with fail
    go_at_call 40; refine (eqIntS ids _ _ _ o8.at o5.at (by omega)).mono ?_; rintro e u16 ⟨rfl, k16⟩
    have K16 := K15.trans k16
    have La := La.kept k16
    have Lb := Lb.kept k16
    have o5 := o5.kept k16
    have o8 := o8.kept k16
    have s16 := k16.size
    clear k16 K15 hdm
    go_wp2_with fail
    go_at_call 43; refine (markIntS ids _ 1 (u7.heap.size + 1) u8.heap.size _ o8 (by omega)).mono ?_; rintro e u17 ⟨rfl, o17, k17⟩
    have k17 := k17.inner o8
    have K17 := K16.onto k17 (by omega)
    have La := La.but k17 (by omega)
    have Lb := Lb.but k17 (by omega)
    have o5 := o5.but k17 (by omega)
    have s17 := k17.size
    clear k17 K16 o8
    obtain ⟨q, hq1⟩ : ∃ q, 1 + ids.length = q := ⟨_, rfl⟩
    have HQ : Hid (1 + ids.length = q) := hq1
    have hdq : decide ((q : Int) < 0) = false := by simp
    rw [hq1]
    clear hq1
    go_wp2_with fail
    go_at_call 44; refine (heldIntS ids.length _ 1 _ o17.at (by omega)).mono ?_; rintro e u18 ⟨rfl, k18⟩
    rw [HQ.out]
    have K18 := K17.trans k18
    have La := La.kept k18
    have Lb := Lb.kept k18
    have o5 := o5.kept k18
    have o17 := o17.kept k18
    have s18 := k18.size
    clear k18 K17
    have a0 := La.cell 0 rfl
    have a1 := La.cell 1 rfl
    have a2 := La.cell 2 rfl
    have b0 := Lb.cell 0 rfl
    have b1 := Lb.cell 1 rfl
    have b2 := Lb.cell 2 rfl
    go_wp2_with fail
    go_region_held3 (fun w' => w'.cell? ⟨w.heap.size, 0, none⟩ = some (.int .i64 D.1) ∧ w'.cell? ⟨w.heap.size, 1, none⟩ = some (.int .i64 D.2.1) ∧ w'.cell? ⟨w.heap.size, 2, none⟩ = some (.slice ao n cap) ∧ w'.cell? ⟨w.heap.size + 1, 0, none⟩ = some (.slice q1 m1 c1) ∧ w'.cell? ⟨w.heap.size + 1, 1, none⟩ = some (.slice q2 m2 c2) ∧ w'.cell? ⟨w.heap.size + 1, 2, none⟩ = some (.int .i64 Q.2.2)) (simp [go_sem, *])
      (first | (go_at_call 26; refine (toWorld D _ _ (hv.kept K18.drew) hlD).mono ?_; rintro e u19 ⟨v19, rfl, o19, k19⟩; have j19 : Kept u18 u19 := ((But.refl _ _ u18).drew).trans k19; obtain ⟨ao19, n19, cap19, hfm⟩ := o19.form; subst hfm; have a0 := Kept.cell k19 a0; have a1 := Kept.cell k19 a1; have a2 := Kept.cell k19 a2; have b0 := Kept.cell k19 b0; have b1 := Kept.cell k19 b1; have b2 := Kept.cell k19 b2)
             | (go_at_call 39; refine (toQuery Q _ _ (hq.kept (K18.trans j19)) hlQ).mono ?_; rintro e u20 ⟨v20, rfl, o20, k20⟩; obtain ⟨xx3, yy3, zz3, xx4, yy4, zz4, hfm⟩ := o20.at.form; subst hfm; have a0 := Kept.cell k20 a0; have a1 := Kept.cell k20 a1; have a2 := Kept.cell k20 a2; have b0 := Kept.cell k20 b0; have b1 := Kept.cell k20 b1; have b2 := Kept.cell k20 b2)
             | (go_at_call 14; refine (HI.out _ _ _ (o19.at.kept k20) o20.at).mono ?_; rintro e u21 ⟨v21, rfl, o21, k21⟩; have a0 := Kept.cell k21 a0; have a1 := Kept.cell k21 a1; have a2 := Kept.cell k21 a2; have b0 := Kept.cell k21 b0; have b1 := Kept.cell k21 b1; have b2 := Kept.cell k21 b2))
    have j21 := j19.trans (k20.trans k21)
    have K21 := K18.trans j21
    have o5 := o5.kept j21
    have o17 := o17.kept j21
    obtain ⟨ao21, cap21, hfm⟩ := o21.form
    subst hfm
    clear k19 k20 k21 j19 j21 o19 o20 K18 a0 a1 a2 b0 b1 b2
    go_wp2_with fail
    go_at_call 40; refine (eqIntS ids _ _ _ o21.at o5.at (by omega)).mono ?_; rintro e u22 ⟨rfl, k22⟩
    have K22 := K21.trans k22
    have o17 := o17.kept k22
    clear k22 K21 o5 o21
    go_wp2_with fail
    go_at_call 44; refine (heldIntS ids.length _ 1 _ o17.at (by omega)).mono ?_; rintro e u23 ⟨rfl, k23⟩
    rw [HQ.out]
    have K23 := K22.trans k23
    clear k23 K22 o17
    go_wp2
    go_ret
    exact ⟨rfl, K23⟩


set_option maxHeartbeats 1000000 in
theorem bigW (D : WD) (Q : QD) (v v' : Value) (w : World) (hv : WAt w v D) (hq : QAt w v' Q) (hf : Fits D.2.2) (hl : 1048576 < ecost D.2.2) :
    Calls Try.prog 11 #[v, v'] w fun e w' => e = .returned (.bool true) ∧ Kept w w' := by
  obtain ⟨ao, n, cap, hfm⟩ := hv.form
  subst hfm
  obtain ⟨q1, m1, c1, q2, m2, c2, hfm⟩ := hq.form
  subst hfm
  go_enter Try.func11, Try.ntmps11
  go_wp2_with (go_at_call 24; refine (szWorld D _ _ _ (hv.kept (((But.refl _ _ _).alloc _).alloc _)) (by omega) (by omega) hf).mono ?_; rintro e u1 ⟨rfl, k1⟩; rw [leftOf_no (by omega)])
  go_ret
  exact ⟨rfl, (((But.refl _ _ _).alloc _).alloc _).trans k1⟩

set_option maxHeartbeats 1000000 in
theorem bigQ (D : WD) (Q : QD) (v v' : Value) (w : World) (hv : WAt w v D) (hq : QAt w v' Q) (hf : Fits D.2.2) (hf' : FitsQ Q) (hl : ecost D.2.2 ≤ 1048576) (hl' : 1048576 < ecost D.2.2 + qcost Q) :
    Calls Try.prog 11 #[v, v'] w fun e w' => e = .returned (.bool true) ∧ Kept w w' := by
  obtain ⟨ao, n, cap, hfm⟩ := hv.form
  subst hfm
  obtain ⟨q1, m1, c1, q2, m2, c2, hfm⟩ := hq.form
  subst hfm
  have hdl : decide ((1048576 : Int) - (ecost D.2.2 : Int) < 0) = false := by simp; omega
  go_enter Try.func11, Try.ntmps11
  go_wp2_with fail
  go_at_call 24; refine (szWorld D _ _ _ (hv.kept (((But.refl _ _ _).alloc _).alloc _)) (by omega) (by omega) hf).mono ?_; rintro e u1 ⟨rfl, k1⟩
  rw [leftOf_yes (by omega)]
  have K1 : Kept w u1 := (((But.refl _ _ _).alloc _).alloc _).trans k1
  have Lb := (Loc.new (w.alloc (.cells #[.int .i64 D.1, .int .i64 D.2.1, .slice ao n cap] 51)) [.slice q1 m1 c1, .slice q2 m2 c2, .int .i64 Q.2.2] 66).kept k1
  simp only [World.size_alloc] at Lb
  have b0 := Lb.cell 0 rfl
  have b1 := Lb.cell 1 rfl
  have b2 := Lb.cell 2 rfl
  clear k1
  go_wp2_with (go_at_call 38; refine (szQuery Q _ _ _ (hq.kept K1) (by omega) (by omega) hf').mono ?_; rintro e u2 ⟨rfl, k2⟩; rw [leftOf_no (by omega)])
  go_ret
  exact ⟨rfl, K1.trans k2⟩

theorem all {w : World} (D : WD) (v : Value) (hv : WAt w v D) (hf : Fits D.2.2) (Q : QD) (v' : Value) (hq : QAt w v' Q) (hf' : FitsQ Q) (w' : World) (e : w' = w) :
    Calls Try.prog 11 #[v, v'] w fun e w' => e = .returned (.bool true) ∧ Kept w w' := by
  by_cases hl : ecost D.2.2 + qcost Q ≤ 1048576
  · by_cases hg : GoodW D
    · by_cases hb : GoodQ Q
      · refine walk D Q (idsOf Q D.2.2) true v v' w hv hq hl hf hf' ?_ (fun u v v' h h' => specQueryOk D Q hg hb (by omega) (by omega) v v' u h h') (fun u v v' h h' => implQueryOk D Q hg hb (by omega) (by omega) v v' u h h')
        have := idsOf_len Q D.2.2
        have := hg.2.2.2.2.1
        omega
      · refine walk D Q [] false v v' w hv hq hl hf hf' (by simp) (fun u v v' h h' => ?_) (fun u v v' h h' => ?_)
        · refine (specQueryBad D Q (fun h => hb h.2) (by omega) (by omega) v v' u h h').mono ?_
          rintro e u' ⟨rfl, k⟩
          exact ⟨_, rfl, one_nil _ _ _, k⟩
        · refine (implQueryBadQ D Q hg hb (by omega) (by omega) v v' u h h').mono ?_
          rintro e u' ⟨rfl, k⟩
          exact ⟨_, rfl, one_nil _ _ _, k⟩
    · refine walk D Q [] false v v' w hv hq hl hf hf' (by simp) (fun u v v' h h' => ?_) (fun u v v' h h' => ?_)
      · refine (specQueryBad D Q (fun h => hg h.1) (by omega) (by omega) v v' u h h').mono ?_
        rintro e u' ⟨rfl, k⟩
        exact ⟨_, rfl, one_nil _ _ _, k⟩
      · refine (implQueryBadW D Q hg (by omega) v v' u h h').mono ?_
        rintro e u' ⟨rfl, k⟩
        exact ⟨_, rfl, one_nil _ _ _, k⟩
  · by_cases hl2 : ecost D.2.2 ≤ 1048576
    · exact bigQ D Q v v' w hv hq hf hf' hl2 (by omega)
    · exact bigW D Q v v' w hv hq hf (by omega)


set_option maxRecDepth 100000 in
theorem lifted (os : Os) (started : os.Started) (H : Type) (enc : TypeId × Value → H) :
    ReturnsInHanded {} Try.checked os 11 .any (Rows.fnExactQueryWorldSpec.pre6 enc Try.prog Try.f11 Rows.fnExactQueryWorldRow.domain false) (Rows.fnExactQueryWorldSpec.post enc Try.prog Try.f11 false true false false) := by
  refine returnsInHanded_of_change (C := Try.checked) own started (by kernel_rfl) Try.func11
    (ChangeSpec.witness6 (enc := enc) (C := Try.checked) false ⟨#[], #[.agg #[.int .i64 0, .int .i64 0, .slice none 0 0], .agg #[.slice none 0 0, .slice none 0 0, .int .i64 0]], []⟩ 8 (by kernel_rfl) (by kernel_rfl) (by kernel_rfl) (by kernel_rfl)) ?_
  intro W base args ds gs before hval0 hW hcnd _
  have hval : ∀ (j : Nat) t v, Try.f11.params[j]? = some t → args[j]? = some v → Value.okWide Try.prog W .any base t v := hval0
  have hW' := hW
  obtain ⟨p, q, hA0, hV, rfl, hfz, hnd⟩ := hW
  have hA : DataW.TrodAll enc Try.prog W 0 (fun _ => true) true Try.f11.params.toList args.toList ds p := hA0
  rw [Try.params11] at hA hval
  obtain ⟨v0, vs0, d0, ds0, p0, q0, hargs, rfl, rfl, h0, r0⟩ := trodAll_cons hA
  obtain ⟨v1, vs1, d1, ds1, p1, q1, rfl, rfl, rfl, h1, r1⟩ := trodAll_cons r0
  obtain ⟨rfl, rfl, rfl⟩ := trodAll_nil r1
  obtain rfl : args = #[v0, v1] := by cases args; simp_all
  obtain ⟨rfl, rfl⟩ := trodVars_none hV
  obtain ⟨D0, hD0, hF0⟩ := open_world (hval 0 51 v0 rfl rfl) h0
  obtain ⟨Q1, hQ1, hF1⟩ := open_query (hval 1 66 v1 rfl rfl) h1
  clear hA0 hval0
  simp only [List.append_nil] at hW'
  refine (all D0 v0 hD0 hF0 Q1 v1 hQ1 hF1 W rfl).mono fun e W' ⟨he, hg⟩ => ?_
  subst he
  exact ⟨_, rfl, post_of_kept (pa := _) (pv := []) hW' (fun _ _ _ => (trodAll_cons_mk (shut_bool Try.underlying4 _) trodAll_mk0)) (fun sp hsp => (trodAll_cons_mk (kept_trod (by kernel_rfl) (of_decide_eq_true (by kernel_rfl)) h0 hg (fun x hx => hW'.lt x (by simp [hx])) (fun x hx => hsp x (by simp [hx]))) (trodAll_cons_mk (kept_trod (by kernel_rfl) (of_decide_eq_true (by kernel_rfl)) h1 hg (fun x hx => hW'.lt x (by simp [hx])) (fun x hx => hsp x (by simp [hx]))) trodAll_mk0))) (fun _ _ => rfl) hg⟩

theorem over : Rows.fnExactQueryWorldRow.holds Try.pinned (OpenSpec.ofChange Rows.fnExactQueryWorldSpec) :=
  OpenClaim.holds_of_wide 11 Try.f11 rfl rfl rfl rfl rfl rfl rfl ⟨rfl, rfl, rfl, rfl, rfl⟩ rfl rfl rfl rfl rfl (by kernel_rfl) Try.func11 (by kernel_rfl)
    (of_decide_eq_true (by kernel_rfl)) (by unfold Func.isWrapper; first | (rw [if_pos (by decide +kernel)]; kernel_rfl) | (rw [if_neg (by decide +kernel)]; exact ⟨rfl, rfl⟩))
    (fun os started H enc _ => lifted os started H enc)

theorem proved : Rows.FnExactQueryWorldSaid :=
  over
#print axioms proved
end Go.Proofs.Ytajelalimiobeaa.fnExactQueryWorld
