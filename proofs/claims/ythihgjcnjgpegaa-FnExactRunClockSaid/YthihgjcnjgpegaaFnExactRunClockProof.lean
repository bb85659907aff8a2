/-
  At every clock and time the program's RunClock answers what the specification's RunClock answers, writes into no argument, and its answer owns its memory.
-/
import Derived.Test.YthihgjcnjgpegaaRows
import Derived.Test.YthihgjcnjgpegaaClockF
import Derived.Test.YthihgjcnjgpegaaClockG
import Derived.Test.YthihgjcnjgpegaaRunS
import Derived.Test.YthihgjcnjgpegaaRunI
import Derived.Test.YthihgjcnjgpegaaOpenC
import Derived.ChangeMaps
namespace Go.Proofs.Ythihgjcnjgpegaa.fnExactRunClock
open Go.ChangeShapes Go.WideShapes Go.ChangeAt Go.RowKit
set_option linter.unusedVariables false

theorem own : ownKnob Try.prog.godebug = none := by kernel_rfl


set_option maxRecDepth 100000 in
theorem markClockF (x : Int) (l : List TimerD) (ao : Option Addr) (cap : Nat) (k lo hi : Nat) (w : World) (hr : TimerO w lo hi (.slice ao l.length cap) l) (hb : k + 4 * l.length ≤ 1000000000000) :
    Calls Try.prog 23 #[.agg #[.int .i64 x, .slice ao l.length cap], .int .i64 (k : Int)] w fun e w' => e = .returned (.int .i64 ((k + 4 * l.length : Nat) : Int)) ∧ TimerO w' lo hi (.slice ao l.length cap) (mTimers k l.length) ∧ But (blo (.slice ao l.length cap)) (bhi (.slice ao l.length cap)) w w' := by
  go_enter Try.func23, Try.ntmps23
  repeat (first | go_values | go_skip | go_guarded | go_step | go_upon)
  go_at_call 55
  refine (markTimerS l _ k lo hi _ (hr.kept ((But.refl _ _ _).alloc _)) hb).mono ?_
  rintro e u1 ⟨rfl, o1, b1⟩
  dsimp only
  repeat (first | go_values | go_skip | go_guarded | go_step | go_upon)
  go_ret
  exact ⟨rfl, o1, ((But.refl _ _ _).alloc _).trans b1⟩
set_option maxRecDepth 100000 in
set_option maxHeartbeats 8000000 in
theorem walk (c R : ClockD) (S : List FiredD) (t : Int) (jb : Bool) (v : Value) (w : World) (hv : ClockAt w v c) (hn : c.2.length ≤ 9223372036854775807) (hl : c.2.length ≤ 1048576) (hR : R.2.length ≤ 100000000) (hSl : S.length ≤ 100000000)
    (hS : ∀ (u : World) (v : Value), ClockAt u v c → Calls Try.prog 12 #[v, .int .i64 t] u fun e u' => ∃ v' f', e = .returned (.tuple #[v', f', .bool jb]) ∧ ClockO u' u.heap.size u'.heap.size v' R ∧ FiredO u' u.heap.size u'.heap.size f' S ∧ Kept u u')
    (hI : ∀ (u : World) (v : Value), ClockAt u v c → Calls Try.prog 11 #[v, .int .i64 t] u fun e u' => ∃ v' f', e = .returned (.tuple #[v', f', .bool jb]) ∧ ClockO u' u.heap.size u'.heap.size v' R ∧ FiredO u' u.heap.size u'.heap.size f' S ∧ Kept u u') :
    Calls Try.prog 7 #[v, .int .i64 t] w fun e w' => e = .returned (.bool true) ∧ Kept w w' := by
  obtain ⟨q, hq1⟩ : ∃ q, 1 + 4 * c.2.length = q := ⟨_, rfl⟩
  obtain ⟨q', hq2⟩ : ∃ q', 1 + 4 * R.2.length = q' := ⟨_, rfl⟩
  obtain ⟨q2, hq3⟩ : ∃ q2, q' + 2 * S.length = q2 := ⟨_, rfl⟩
  have hdq : decide ((q : Int) < 0) = false := by simp
  have hdq' : decide ((q' : Int) < 0) = false := by simp
  have hdq2 : decide ((q2 : Int) < 0) = false := by simp
  have hqb : q' + 2 * S.length ≤ 1000000000000 := by omega
  have HQ : Hid (1 + 4 * c.2.length = q) := hq1
  have HQ' : Hid (1 + 4 * R.2.length = q') := hq2
  have HQ2 : Hid (q' + 2 * S.length = q2) := hq3
  clear hq1 hq2 hq3
  have hlen : c.2.length ≤ 1048576 := hl
  have hdl : decide ((1048576 : Int) - (c.2.length : Int) < 0) = false := by simp; omega
  obtain ⟨ao, cap, hfm⟩ := hv.form
  subst hfm
  have HS : Hid _ := hS
  have HI : Hid _ := hI
  clear hS hI
  go_enter Try.func7, Try.ntmps7
  repeat (first | go_values | go_skip | go_guarded | go_step | go_upon)
  go_at_call 15
  refine (szClock c _ _ _ (hv.kept ((But.refl _ _ _).alloc _)) (by omega) (by omega) hn).mono ?_
  rintro e u1 ⟨rfl, k1⟩
  rw [leftOf_yes (by omega)]
  have K1 : Kept w u1 := ((But.refl _ _ _).alloc _).trans k1
  have La := (Loc.new w [.int .i64 c.1, .slice ao c.2.length cap] 36).kept k1
  have a0 := La.cell 0 rfl
  have a1 := La.cell 1 rfl
  have al := La.lt
  dsimp only
  repeat (first | go_values | go_skip | go_guarded | go_step | go_upon)
  go_at_call 17
  refine (toClock c _ _ (hv.kept K1) hlen).mono ?_
  rintro e u2 ⟨v2, rfl, o2, k2⟩
  have K2 := K1.trans k2
  have La := La.kept k2
  clear a0 a1 al
  obtain ⟨ao2, cap2, hfm⟩ := o2.form
  subst hfm
  dsimp only
  repeat (first | go_values | go_skip | go_guarded | go_step | go_upon)
  go_at_call 12
  refine (HS.out _ _ o2.at).mono ?_
  rintro e u3 ⟨v3, f3, rfl, o3, p3, k3⟩
  have K3 := K2.trans k3
  have La := La.kept k3
  have s3 := k3.size
  have a0 := La.cell 0 rfl
  have a1 := La.cell 1 rfl
  have al := La.lt
  clear o2
  obtain ⟨ao3, cap3, hfm⟩ := o3.form
  subst hfm
  obtain ⟨af3, cf3, hfm⟩ := p3.form
  subst hfm
  dsimp only
  repeat (first | go_values | go_skip | go_guarded | go_step | go_upon)
  go_at_call 17
  refine (toClock c _ _ (hv.kept (K3.alloc _)) hlen).mono ?_
  rintro e u4 ⟨v4, rfl, o4, k4⟩
  have K4 := (K3.alloc _).trans k4
  have La := (La.alloc _).kept k4
  have Lw := (Loc.new u3 [.int .i64 R.1, .slice ao3 R.2.length cap3] 25).kept k4
  have o3 := (o3.kept ((But.refl _ _ u3).alloc _)).kept k4
  have p3 := (p3.kept ((But.refl _ _ u3).alloc _)).kept k4
  have s4 := k4.size
  simp only [World.size_alloc] at s4 o4
  clear a0 a1 al
  obtain ⟨ao4, cap4, hfm⟩ := o4.form
  subst hfm
  dsimp only
  repeat (first | go_values | go_skip | go_guarded | go_step | go_upon)
  go_at_call 11
  refine (HI.out _ _ (o4.at.kept ((But.refl _ _ u4).alloc _))).mono ?_
  rintro e u5 ⟨v5, f5, rfl, o5, p5, k5⟩
  have j5 : Kept u4 u5 := ((But.refl _ _ u4).alloc _).trans k5
  have K5 := K4.trans j5
  have La := La.kept j5
  have Lw := Lw.kept j5
  have o3 := o3.kept j5
  have p3 := p3.kept j5
  have o4 := o4.kept j5
  have Lx := (Loc.new u4 [.int .i64 c.1, .slice ao4 c.2.length cap4] 25).kept k5
  have s5 := k5.size
  simp only [World.size_alloc] at s5 o5 p5
  obtain ⟨ao5, cap5, hfm⟩ := o5.form
  subst hfm
  obtain ⟨af5, cf5, hfm⟩ := p5.form
  subst hfm
  have b0 := Lw.cell 0 rfl
  have b1 := Lw.cell 1 rfl
  have bl := Lw.lt
  dsimp only
  repeat (first | go_values | go_skip | go_guarded | go_step | go_upon)
  go_at_call 19
  refine (eqClock R _ _ _ (o5.at.kept ((But.refl _ _ u5).alloc _)) (o3.at.kept ((But.refl _ _ u5).alloc _)) (by omega)).mono ?_
  rintro e u6a ⟨rfl, k6⟩
  have j6 : Kept u5 u6a := ((But.refl _ _ u5).alloc _).trans k6
  have K6a := K5.trans j6
  have La := La.kept j6
  have Lw := Lw.kept j6
  have Lx := Lx.kept j6
  have o3 := o3.kept j6
  have p3 := p3.kept j6
  have o4 := o4.kept j6
  have o5 := o5.kept j6
  have p5 := p5.kept j6
  have Lg := (Loc.new u5 [.int .i64 R.1, .slice ao5 R.2.length cap5] 25).kept k6
  have s6a := k6.size
  simp only [World.size_alloc] at s6a
  have HW : Hid (w.heap.size ≤ u3.heap.size) := K3.size
  clear b0 b1 bl
  clear k1 k2 k3 k4 k5 k6 j5 j6 K1 K2 K3 K4 K5
  dsimp only
  repeat (first | go_values | go_skip | go_guarded | go_step | go_upon)
  go_at_call 27
  refine (eqFiredS S _ _ _ p5.at p3.at (by omega)).mono ?_
  rintro e u6 ⟨rfl, k6⟩
  have K6 := K6a.trans k6
  have La := La.kept k6
  have Lw := Lw.kept k6
  have Lx := Lx.kept k6
  have Lg := Lg.kept k6
  have o3 := o3.kept k6
  have p3 := p3.kept k6
  have o4 := o4.kept k6
  have o5 := o5.kept k6
  have p5 := p5.kept k6
  have s6 := k6.size
  clear k6 K6a
  have a0 := La.cell 0 rfl
  have a1 := La.cell 1 rfl
  have al := La.lt
  have b0 := Lx.cell 0 rfl
  have b1 := Lx.cell 1 rfl
  have bl := Lx.lt
  dsimp only
  repeat (first | go_values | go_skip | go_guarded | go_step | go_upon)
  go_region_held3 (fun w' => w'.cell? ⟨w.heap.size, 0, none⟩ = some (.int .i64 c.1) ∧ w'.cell? ⟨w.heap.size, 1, none⟩ = some (.slice ao c.2.length cap) ∧ w'.cell? ⟨u4.heap.size, 0, none⟩ = some (.int .i64 c.1) ∧ w'.cell? ⟨u4.heap.size, 1, none⟩ = some (.slice ao4 c.2.length cap4)) (simp [go_sem, *])
    (first | (go_at_call 17; refine (toClock c _ _ (hv.kept K6.drew) hlen).mono ?_; rintro e u7 ⟨v7, rfl, o7, k7⟩; have j7 : Kept u6 u7 := ((But.refl _ _ u6).drew).trans k7; obtain ⟨ao7, cap7, hfm⟩ := o7.form; subst hfm; have a0 := Kept.cell k7 a0; have a1 := Kept.cell k7 a1; have b0 := Kept.cell k7 b0; have b1 := Kept.cell k7 b1)
           | (go_at_call 19; refine (eqClock c _ _ _ (o4.at.kept j7) o7.at (by omega)).mono ?_; rintro e u8 ⟨rfl, k8⟩; have a0 := Kept.cell k8 a0; have a1 := Kept.cell k8 a1; have b0 := Kept.cell k8 b0; have b1 := Kept.cell k8 b1))
  all_goals
    have j8 : Kept u6 u8 := j7.trans k8
    have K8 := K6.trans j8
    have La := La.kept j8
    have Lw := Lw.kept j8
    have Lx := Lx.kept j8
    have Lg := Lg.kept j8
    have o3 := o3.kept j8
    have p3 := p3.kept j8
    have o4 := o4.kept j8
    have o5 := o5.kept j8
    have p5 := p5.kept j8
    have s8 := j8.size
    have hWL := HW.out
    clear j7 j8 k7 k8 o7 a0 a1 al b0 b1 bl K6
    have b0 := Lx.cell 0 rfl
    have b1 := Lx.cell 1 rfl
    have bl := Lx.lt
    repeat (first | go_values | go_skip | go_guarded | go_step | go_upon)
    go_at_call 23
    refine (markClock c _ 1 (u3.heap.size + 1) u4.heap.size _ o4 (by omega)).mono ?_
    rintro e u9 ⟨rfl, -, k9⟩
    rw [HQ.out]
    have K9 := K8.onto k9 (by omega)
    have La := La.but k9 (by omega)
    have Lw := Lw.but k9 (by omega)
    have Lg := Lg.but k9 (by omega)
    have o3 := o3.but k9 (by omega)
    have p3 := p3.but k9 (by omega)
    have o5 := o5.but k9 (by omega)
    have p5 := p5.but k9 (by omega)
    have s9 := k9.size
    clear k9 K8 o4 Lx b0 b1 bl
    have b0 := Lw.cell 0 rfl
    have b1 := Lw.cell 1 rfl
    have bl := Lw.lt
    have g0 := Lg.cell 0 rfl
    have g1 := Lg.cell 1 rfl
    have gl := Lg.lt
    dsimp only
    repeat (first | go_values | go_skip | go_guarded | go_step | go_upon)
    go_at_call 19
    refine (eqClock R _ _ _ o5.at o3.at (by omega)).mono ?_
    rintro e u10a ⟨rfl, k10⟩
    have K10a := K9.trans k10
    have La := La.kept k10
    have Lw := Lw.kept k10
    have Lg := Lg.kept k10
    have o3 := o3.kept k10
    have p3 := p3.kept k10
    have o5 := o5.kept k10
    have p5 := p5.kept k10
    have s10a := k10.size
    clear k10 K9
    clear b0 b1 bl g0 g1 gl
    dsimp only
    repeat (first | go_values | go_skip | go_guarded | go_step | go_upon)
    go_at_call 27
    refine (eqFiredS S _ _ _ p5.at p3.at (by omega)).mono ?_
    rintro e u10 ⟨rfl, k10⟩
    have K10 := K10a.trans k10
    have La := La.kept k10
    have Lw := Lw.kept k10
    have Lg := Lg.kept k10
    have o3 := o3.kept k10
    have p3 := p3.kept k10
    have o5 := o5.kept k10
    have p5 := p5.kept k10
    have s10 := k10.size
    clear k10 K10a
    have g0 := Lg.cell 0 rfl
    have g1 := Lg.cell 1 rfl
    have gl := Lg.lt
    dsimp only
    repeat (first | go_values | go_skip | go_guarded | go_step | go_upon)
    go_at_call 23
    refine (markClockF R.1 R.2 ao5 cap5 1 (u4.heap.size + 1) u5.heap.size _ o5.row (by omega)).mono ?_
    rintro e u11 ⟨rfl, o11, b11⟩
    rw [HQ'.out]
    have k11 := b11.inner o5.row
    have p5 : FiredO u11 (u4.heap.size + 1) u5.heap.size (.slice af5 S.length cf5) S := RowO.apart p5 b11 (ap_types p5 o5.row (by decide))
    have K11 := K10.onto k11 (by omega)
    have La := La.but k11 (by omega)
    have Lw := Lw.but k11 (by omega)
    have Lg := Lg.but k11 (by omega)
    have o3 := o3.but k11 (by omega)
    have p3 := p3.but k11 (by omega)
    have s11 := k11.size
    clear k11 b11 K10 o5
    clear g0 g1 gl
    dsimp only
    repeat (first | go_values | go_skip | go_guarded | go_step | go_upon)
    go_at_call 28
    refine (markFiredS S _ q' (u4.heap.size + 1) u5.heap.size _ p5 hqb).mono ?_
    rintro e u11b ⟨rfl, p11, b11⟩
    rw [HQ2.out]
    have k11 := b11.inner p5
    have o11 : TimerO u11b (u4.heap.size + 1) u5.heap.size (.slice ao5 R.2.length cap5) (mTimers 1 R.2.length) := RowO.apart o11 b11 (ap_types o11 p5 (by decide))
    have K11b := K11.onto k11 (by omega)
    have La := La.but k11 (by omega)
    have Lw := Lw.but k11 (by omega)
    have Lg := Lg.but k11 (by omega)
    have o3 := o3.but k11 (by omega)
    have p3 := p3.but k11 (by omega)
    have s11b := k11.size
    clear k11 b11 K11 p5
    have ot : ClockAt u11b (.agg #[.int .i64 R.1, .slice ao5 R.2.length cap5]) (R.1, mTimers 1 R.2.length) := ⟨_, rfl, o11.at⟩
    have g0 := Lg.cell 0 rfl
    have g1 := Lg.cell 1 rfl
    have gl := Lg.lt
    dsimp only
    repeat (first | go_values | go_skip | go_guarded | go_step | go_upon)
    go_at_call 24
    refine (heldClock R.1 R.2.length _ 1 _ ot (by omega)).mono ?_
    rintro e u12a ⟨rfl, k12⟩
    rw [HQ'.out]
    have K12a := K11b.trans k12
    have La := La.kept k12
    have Lw := Lw.kept k12
    have Lg := Lg.kept k12
    have o3 := o3.kept k12
    have p3 := p3.kept k12
    have ot := ot.kept k12
    have p11 := p11.kept k12
    clear k12 K11b o11
    clear g0 g1 gl
    dsimp only
    repeat (first | go_values | go_skip | go_guarded | go_step | go_upon)
    go_at_call 29
    refine (heldFiredS S.length _ q' _ p11.at hqb).mono ?_
    rintro e u12 ⟨rfl, k12⟩
    rw [HQ2.out]
    have K12 := K12a.trans k12
    have La := La.kept k12
    have Lw := Lw.kept k12
    have Lg := Lg.kept k12
    have o3 := o3.kept k12
    have p3 := p3.kept k12
    have ot := ot.kept k12
    have p11 := p11.kept k12
    clear k12 K12a
    have a0 := La.cell 0 rfl
    have a1 := La.cell 1 rfl
    have al := La.lt
    dsimp only
    repeat (first | go_values | go_skip | go_guarded | go_step | go_upon)
    go_at_call 17
    refine (toClock c _ _ (hv.kept K12) hlen).mono ?_
    rintro e u13 ⟨v13, rfl, o13, k13⟩
    have K13 := K12.trans k13
    have Lw := Lw.kept k13
    have Lg := Lg.kept k13
    have o3 := o3.kept k13
    have p3 := p3.kept k13
    have ot := ot.kept k13
    have p11 := p11.kept k13
    clear k13 K12 La
    clear a0 a1 al
    obtain ⟨ao13, cap13, hfm⟩ := o13.form
    subst hfm
    dsimp only
    repeat (first | go_values | go_skip | go_guarded | go_step | go_upon)
    go_at_call 11
    refine (HI.out _ _ o13.at).mono ?_
    rintro e u14 ⟨v14, f14, rfl, o14, p14, k14⟩
    have K14 := K13.trans k14
    have Lw := Lw.kept k14
    have Lg := Lg.kept k14
    have o3 := o3.kept k14
    have p3 := p3.kept k14
    have ot := ot.kept k14
    have p11 := p11.kept k14
    clear k14 K13 o13
    obtain ⟨ao14, cap14, hfm⟩ := o14.form
    subst hfm
    obtain ⟨af14, cf14, hfm⟩ := p14.form
    subst hfm
    have b0 := Lw.cell 0 rfl
    have b1 := Lw.cell 1 rfl
    have bl := Lw.lt
    dsimp only
    repeat (first | go_values | go_skip | go_guarded | go_step | go_upon)
    go_at_call 19
    refine (eqClock R _ _ _ (o14.at.kept ((But.refl _ _ u14).alloc _)) (o3.at.kept ((But.refl _ _ u14).alloc _)) (by omega)).mono ?_
    rintro e u15a ⟨rfl, k15⟩
    have j15 : Kept u14 u15a := ((But.refl _ _ u14).alloc _).trans k15
    have K15a := K14.trans j15
    have Lg := Lg.kept j15
    have p3 := p3.kept j15
    have p14 := p14.kept j15
    have ot := ot.kept j15
    have p11 := p11.kept j15
    clear k15 j15 K14 o14 o3
    clear b0 b1 bl
    dsimp only
    repeat (first | go_values | go_skip | go_guarded | go_step | go_upon)
    go_at_call 27
    refine (eqFiredS S _ _ _ p14.at p3.at (by omega)).mono ?_
    rintro e u15 ⟨rfl, k15⟩
    have K15 := K15a.trans k15
    have Lg := Lg.kept k15
    have ot := ot.kept k15
    have p11 := p11.kept k15
    clear k15 K15a p14 p3
    have g0 := Lg.cell 0 rfl
    have g1 := Lg.cell 1 rfl
    have gl := Lg.lt
    dsimp only
    repeat (first | go_values | go_skip | go_guarded | go_step | go_upon)
    go_at_call 24
    refine (heldClock R.1 R.2.length _ 1 _ ot (by omega)).mono ?_
    rintro e u16a ⟨rfl, k16⟩
    rw [HQ'.out]
    have K16a := K15.trans k16
    have p11 := p11.kept k16
    clear k16 K15
    clear g0 g1 gl
    dsimp only
    repeat (first | go_values | go_skip | go_guarded | go_step | go_upon)
    go_at_call 29
    refine (heldFiredS S.length _ q' _ p11.at hqb).mono ?_
    rintro e u16 ⟨rfl, k16⟩
    rw [HQ2.out]
    have K16 := K16a.trans k16
    dsimp only
    repeat (first | go_values | go_skip | go_guarded | go_step | go_upon)
    go_ret
    exact ⟨rfl, K16⟩

set_option maxRecDepth 100000 in
set_option maxHeartbeats 1000000 in
theorem big (c : ClockD) (t : Int) (v : Value) (w : World) (hv : ClockAt w v c) (hn : c.2.length ≤ 9223372036854775807) (hl : 1048576 < c.2.length) :
    Calls Try.prog 7 #[v, .int .i64 t] w fun e w' => e = .returned (.bool true) ∧ Kept w w' := by
  obtain ⟨ao, cap, hfm⟩ := hv.form
  subst hfm
  go_enter Try.func7, Try.ntmps7
  repeat (first | go_values | go_skip | go_guarded | go_step | go_upon)
  go_at_call 15
  refine (szClock c _ _ _ (hv.kept (by repeat (first | with_reducible exact But.refl _ _ _ | with_reducible apply But.alloc))) (by omega) (by omega) hn).mono ?_
  rintro e u1 ⟨rfl, k1⟩
  rw [leftOf_no (by omega)]
  dsimp only
  repeat (first | go_values | go_skip | go_guarded | go_step | go_upon)
  go_ret
  refine ⟨rfl, But.trans ?_ k1⟩
  repeat (first | with_reducible exact But.refl _ _ _ | with_reducible apply But.alloc)

theorem run_len (u : Int) : ∀ (f : Nat) (l l' : List TimerD) (fs : List FiredD), runM u f l = some (l', fs) → l'.length ≤ l.length ∧ fs.length ≤ f
  | 0, l, l', fs, h => by
    cases hk : pickM u l with
    | none => rw [runM_none hk] at h; cases h; simp
    | some k => rw [runM_full hk] at h; cases h
  | f + 1, l, l', fs, h => by
    cases hk : pickM u l with
    | none => rw [runM_none hk] at h; cases h; simp
    | some k =>
      rw [runM_some hk] at h
      cases hr : runM u f (nextM l k) with
      | none => rw [hr] at h; cases h
      | some r =>
        rw [hr] at h
        simp at h
        obtain ⟨rfl, rfl⟩ := h
        have := run_len u f _ r.1 r.2 hr
        have := next_len (l := l) (k := k)
        simp
        omega
theorem out_len (c : ClockD) (t : Int) : (runA c t).1.2.length ≤ 100000000 ∧ (runA c t).2.1.length ≤ 100000000 := by
  unfold runA
  split
  · rename_i h
    simp only [Bool.and_eq_true] at h
    have hc := good_len h.1.1
    cases hr : runM t 2000 c.2 with
    | none => simp [outA]
    | some r =>
      have := run_len t 2000 c.2 r.1 r.2 hr
      simp only [outA]
      omega
  · simp
theorem all {w : World} (c : ClockD) (v : Value) (hv : ClockAt w v c) (hn : c.2.length ≤ maxLen) (t : Int) (w' : World) (_ : w' = w) :
    Calls Try.prog 7 #[v, .int .i64 t] w fun e w' => e = .returned (.bool true) ∧ Kept w w' := by
  by_cases hl : c.2.length ≤ 1048576
  · exact walk c (runA c t).1 (runA c t).2.1 t (runA c t).2.2 v w hv hn hl (out_len c t).1 (out_len c t).2 (fun u v h => specRun c t v u h) (fun u v h => implRun c t v u h)
  · exact big c t v w hv hn (by omega)


set_option maxRecDepth 100000 in
theorem lifted (os : Os) (started : os.Started) (H : Type) (enc : TypeId × Value → H) :
    ReturnsInHanded {} Try.checked os 7 .any (Rows.fnExactRunClockSpec.pre6 enc Try.prog Try.f7 Rows.fnExactRunClockRow.domain false) (Rows.fnExactRunClockSpec.post enc Try.prog Try.f7 false true false false) := by
  refine returnsInHanded_of_change (C := Try.checked) own started (by kernel_rfl) Try.func7
    (ChangeSpec.witness6 (enc := enc) (C := Try.checked) false ⟨#[], #[.agg #[.int .i64 0, .slice none 0 0], .int .i64 0], []⟩ 8 (by kernel_rfl) (by kernel_rfl) (by kernel_rfl) (by kernel_rfl)) ?_
  intro W base args ds gs before hval0 hW hcnd _
  have hval : ∀ (j : Nat) t v, Try.f7.params[j]? = some t → args[j]? = some v → Value.okWide Try.prog W .any base t v := hval0
  have hW' := hW
  obtain ⟨p, q, hA0, hV, rfl, hfz, hnd⟩ := hW
  have hA : DataW.TrodAll enc Try.prog W 0 (fun _ => true) true Try.f7.params.toList args.toList ds p := hA0
  rw [Try.params7] at hA hval
  obtain ⟨v0, vs0, d0, ds0, p0, q0, hargs, rfl, rfl, h0, r0⟩ := trodAll_cons hA
  obtain ⟨v1, vs1, d1, ds1, p1, q1, rfl, rfl, rfl, h1, r1⟩ := trodAll_cons r0
  obtain ⟨rfl, rfl, rfl⟩ := trodAll_nil r1
  obtain rfl : args = #[v0, v1] := by cases args; simp_all
  obtain ⟨rfl, rfl⟩ := trodVars_none hV
  obtain ⟨c0, hv0, hl0⟩ := open_clock (hval 0 36 v0 rfl rfl) h0
  obtain ⟨a1, rfl, rfl, rfl, w1⟩ := open_int Try.underlying3 (hval 1 3 v1 rfl rfl) h1
  clear hA0 hval0
  simp only [List.append_nil] at hW'
  refine (all c0 v0 hv0 hl0 a1 W rfl).mono fun e W' ⟨he, hg⟩ => ?_
  subst he
  exact ⟨_, rfl, post_of_kept (pa := _) (pv := []) hW' (fun _ _ _ => (trodAll_cons_mk (shut_bool Try.underlying4 _) trodAll_mk0)) (fun sp hsp => (trodAll_cons_mk (kept_trod (by kernel_rfl) (of_decide_eq_true (by kernel_rfl)) h0 hg (fun x hx => hW'.lt x (by simp [hx])) (fun x hx => hsp x (by simp [hx]))) (trodAll_cons_mk (shut_int Try.underlying3 w1) trodAll_mk0))) (fun _ _ => rfl) hg⟩

theorem over : Rows.fnExactRunClockRow.holds Try.pinned (OpenSpec.ofChange Rows.fnExactRunClockSpec) :=
  OpenClaim.holds_of_wide 7 Try.f7 rfl rfl rfl rfl rfl rfl rfl ⟨rfl, rfl, rfl, rfl, rfl⟩ rfl rfl rfl rfl rfl (by kernel_rfl) Try.func7 (by kernel_rfl)
    (of_decide_eq_true (by kernel_rfl)) (by unfold Func.isWrapper; first | (rw [if_pos (by decide +kernel)]; kernel_rfl) | (rw [if_neg (by decide +kernel)]; exact ⟨rfl, rfl⟩))
    (fun os started H enc _ => lifted os started H enc)

theorem proved : Rows.FnExactRunClockSaid :=
  over
#print axioms proved
end Go.Proofs.Ythihgjcnjgpegaa.fnExactRunClock
