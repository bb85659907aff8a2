/-
  The walk of RunMusic's law.
-/
import Derived.Test.YtapfafibhjpkdaaDoorSRun15
import Derived.Test.YtapfafibhjpkdaaDoorIRun15
import Derived.Test.YtapfafibhjpkdaaDoorRBad15
import Derived.Test.YtapfafibhjpkdaaDoorSMark15
import Derived.Test.YtapfafibhjpkdaaDoorTxtM
import Derived.Test.YtapfafibhjpkdaaDoorSecsO
import Derived.Test.YtapfafibhjpkdaaDoorMusicO
import Derived.Test.YtapfafibhjpkdaaDoorQuiet
import Derived.Deep.CutBlock
import Derived.Deep.CutRange
import Derived.Deep.DeepCutAuto
import Derived.Deep.RegionHeld3
namespace Go.Proofs.YtapfafibhjpkdaaDoor.fnExactRunMusic
open Go.ChangeShapes Go.WideShapes Go.ChangeAt Go.RowKit
set_option linter.unusedVariables false

/-- A variable of three cells, read alone. -/
def LocR3 (w : World) (b : Nat) (x0 x1 x2 : Value) : Prop := w.cell? ⟨b, 0, none⟩ = some x0 ∧ w.cell? ⟨b, 1, none⟩ = some x1 ∧ w.cell? ⟨b, 2, none⟩ = some x2 ∧ b < w.heap.size
theorem LocR3.but {w w' : World} {b lo hi : Nat} {x0 x1 x2 : Value} (h : LocR3 w b x0 x1 x2) (k : But lo hi w w') (ho : b < lo ∨ hi ≤ b) : LocR3 w' b x0 x1 x2 := ⟨But.cell k h.1 ho, But.cell k h.2.1 ho, But.cell k h.2.2.1 ho, Nat.lt_of_lt_of_le h.2.2.2 k.size⟩
theorem LocR3.kept {w w' : World} {b : Nat} {x0 x1 x2 : Value} (h : LocR3 w b x0 x1 x2) (k : Kept w w') : LocR3 w' b x0 x1 x2 := h.but k (by omega)
set_option maxRecDepth 100000 in
set_option maxHeartbeats 16000000 in
theorem walk (l : List SectionD) (v : Value) (m0 : ByteArray) (m1 : Int) (m2 : ByteArray) (B : Int) (r0 : ByteArray) (r1 : Int) (r2 : ByteArray) (T : List ByteArray) (jb : Bool) (w : World) (hv : SecsAt w v l) (hfit : SecsFit l) (hc : secsCost l ≤ 1048576) (hcn : m0.size + m2.size ≤ 1048576 - secsCost l) (hT : T.length ≤ 1000)
    (hS : ∀ (u : World) (ao : Option Addr) (cap : Nat), SecsAt u (.slice ao l.length cap) l → l.length ≤ cap ∧ cap ≤ 9223372036854775807 → Calls Tryd.prog 6 #[.slice ao l.length cap, .agg #[.string m0, .int .i64 m1, .string m2], .int .i64 B] u fun e u' => ∃ v', e = .returned (.tuple #[.agg #[.string r0, .int .i64 r1, .string r2], v', .bool jb]) ∧ TxtO u' u.heap.size u'.heap.size v' T ∧ Kept u u')
    (hI : ∀ (u : World) (ao : Option Addr) (cap : Nat), SecsAt u (.slice ao l.length cap) l → l.length ≤ cap ∧ cap ≤ 9223372036854775807 → Calls Tryd.prog 9 #[.slice ao l.length cap, .agg #[.string m0, .int .i64 m1, .string m2], .int .i64 B] u fun e u' => ∃ v', e = .returned (.tuple #[.agg #[.string r0, .int .i64 r1, .string r2], v', .bool jb]) ∧ TxtO u' u.heap.size u'.heap.size v' T ∧ Kept u u') :
    Calls Tryd.prog 3 #[v, .agg #[.string m0, .int .i64 m1, .string m2], .int .i64 B] w fun e w' => e = .returned (.bool true) ∧ Kept w w' := by
  have HS : Hid (∀ (u : World) (ao : Option Addr) (cap : Nat), SecsAt u (.slice ao l.length cap) l → l.length ≤ cap ∧ cap ≤ 9223372036854775807 → Calls Tryd.prog 6 #[.slice ao l.length cap, .agg #[.string m0, .int .i64 m1, .string m2], .int .i64 B] u fun e u' => ∃ v', e = .returned (.tuple #[.agg #[.string r0, .int .i64 r1, .string r2], v', .bool jb]) ∧ TxtO u' u.heap.size u'.heap.size v' T ∧ Kept u u') := hS
  have HI : Hid (∀ (u : World) (ao : Option Addr) (cap : Nat), SecsAt u (.slice ao l.length cap) l → l.length ≤ cap ∧ cap ≤ 9223372036854775807 → Calls Tryd.prog 9 #[.slice ao l.length cap, .agg #[.string m0, .int .i64 m1, .string m2], .int .i64 B] u fun e u' => ∃ v', e = .returned (.tuple #[.agg #[.string r0, .int .i64 r1, .string r2], v', .bool jb]) ∧ TxtO u' u.heap.size u'.heap.size v' T ∧ Kept u u') := hI
  clear hS hI
  obtain ⟨C, hC⟩ : ∃ C : Int, (secsCost l : Int) = C := ⟨_, rfl⟩
  have hM0 : 0 ≤ 1048576 - C ∧ 1048576 - C ≤ 1048576 := by omega
  have hM1 : ((m0.size + m2.size : Nat) : Int) ≤ 1048576 - C := by omega
  have hd1 : decide ((1048576 : Int) - C < 0) = false := by simp; omega
  have hd2 : decide ((1048576 : Int) - C - ((m0.size + m2.size : Nat) : Int) < 0) = false := by simp; omega
  have hz0 : m0.size ≤ 9223372036854775807 := by omega
  have hz2 : m2.size ≤ 9223372036854775807 := by omega
  have hll : l.length ≤ 9223372036854775807 := by unfold secsCost at hc; omega
  obtain ⟨TT, hTT⟩ : ∃ T : Nat, m0.size + m2.size = T := ⟨_, rfl⟩
  rw [hTT] at hM1 hd2
  have HC : Hid ((secsCost l : Int) = C ∧ m0.size + m2.size = TT) := ⟨hC, hTT⟩
  obtain ⟨ao, cap, hfm⟩ := hv.form
  subst hfm
  clear hC hTT hcn
  go_enter Tryd.func3, Tryd.ntmps3
  repeat (first | go_values | go_skip | go_guarded | go_step | go_upon)
  go_at_call 4
  refine (szSecs l _ _ _ (hv.kept ((But.refl _ _ _).alloc _)) (by omega) (by omega) hll hfit).mono ?_
  rintro e u1 ⟨rfl, k1⟩
  rw [leftOf_yes (by omega), HC.out.1]
  have K1 : Kept w u1 := ((But.refl _ _ _).alloc _).trans k1
  have La := (Loc.new w [.string m0, .int .i64 m1, .string m2] 24).kept k1
  clear k1
  have a0 := La.cell 0 rfl
  have a1 := La.cell 1 rfl
  have a2 := La.cell 2 rfl
  have al := La.lt
  dsimp only
  repeat (first | go_values | go_skip | go_guarded | go_step | go_upon)
  go_at_call 5
  refine (szMusic m0 m1 m2 _ _ hM0.1 hM0.2 hz0 hz2).mono ?_
  rintro e u2 ⟨rfl, k2⟩
  rw [HC.out.2, leftOf_yes hM1]
  have K2 := K1.trans k2
  have La := La.kept k2
  clear k2 K1
  clear a0 a1 a2 al
  have a0 := La.cell 0 rfl
  have a1 := La.cell 1 rfl
  have a2 := La.cell 2 rfl
  have al := La.lt
  dsimp only
  repeat (first | go_values | go_skip | go_guarded | go_step | go_upon)
  go_cut [8, 9, 10] from 31 to 40 (fun v6 v7 v8 wx => ∃ gw aoA capA, v6 = .pointer (some ⟨gw, 0, none⟩) ∧ v7 = .slice aoA T.length capA ∧ v8 = .bool jb ∧ LocR3 wx gw (.string r0) (.int .i64 r1) (.string r2) ∧ u2.heap.size ≤ gw ∧ Kept u2 wx ∧ ∃ lo hi, u2.heap.size ≤ lo ∧ (gw < lo ∨ hi ≤ gw) ∧ hi ≤ wx.heap.size ∧ TxtO wx lo hi (.slice aoA T.length capA) T)
  case first =>
    go_region_held3 (fun w' => w'.cell? ⟨w.heap.size, 0, none⟩ = some (.string m0) ∧ w'.cell? ⟨w.heap.size, 1, none⟩ = some (.int .i64 m1) ∧ w'.cell? ⟨w.heap.size, 2, none⟩ = some (.string m2)) (simp [go_sem, *])
      (first | (go_at_call 7; refine (toSecs l _ _ (hv.kept (But.trans K2 (by (repeat (first | with_reducible exact But.refl _ _ _ | with_reducible apply But.drewN | with_reducible apply But.drew | with_reducible apply But.alloc | (with_reducible refine But.setNew ?_ (by simp; try omega) _)))))) hc).mono ?_; rintro e y2 ⟨v2, rfl, o2, k2⟩; obtain ⟨ao2, cap2, hfm⟩ := o2.form; subst hfm; have cp2 := cap_of o2; have o2 := o2.at; have hcy2 := k2.cell_eq; have hfy2 := k2.frozen_eq; have hzy2 := k2.size; (try simp at hzy2); have n0y2 : w.heap.size < y2.heap.size := (by omega); have kwy2 : Kept u2 y2 := (But.trans (by (repeat (first | with_reducible exact But.refl _ _ _ | with_reducible apply But.drewN | with_reducible apply But.drew | with_reducible apply But.alloc | (with_reducible refine But.setNew ?_ (by simp; try omega) _)))) k2); have a0y2 := Kept.cell kwy2 a0; have a1y2 := Kept.cell kwy2 a1; have a2y2 := Kept.cell kwy2 a2; (try have m1y2 : u2.heap.size < y2.heap.size := (by omega)))
               | (go_at_call 8; refine (toMusic m0 m1 m2 _).mono ?_; rintro e y3 ⟨rfl, k3⟩; have o2 := SecsAt.kept o2 (But.trans (by (repeat (first | with_reducible exact But.refl _ _ _ | with_reducible apply But.drewN | with_reducible apply But.drew | with_reducible apply But.alloc | (with_reducible refine But.setNew ?_ (by simp; try omega) _)))) k3); have hcy3 := k3.cell_eq; have hfy3 := k3.frozen_eq; have hzy3 := k3.size; (try simp at hzy3); have n0y3 : w.heap.size < y3.heap.size := (by omega); have kwy3 : Kept u2 y3 := (But.trans (by (repeat (first | with_reducible exact kwy2 | with_reducible apply But.drewN | with_reducible apply But.drew | with_reducible apply But.alloc | (with_reducible refine But.setNew ?_ (by simp; try omega) _)))) k3); have a0y3 := Kept.cell kwy3 a0; have a1y3 := Kept.cell kwy3 a1; have a2y3 := Kept.cell kwy3 a2; (try have m1y3 : u2.heap.size < y3.heap.size := (by omega)); (try have m2y3 : y2.heap.size < y3.heap.size := (by omega)))
               | (go_at_call 6; refine (HS.out _ _ _ (SecsAt.kept o2 (by (repeat (first | with_reducible exact But.refl _ _ _ | with_reducible apply But.drewN | with_reducible apply But.drew | with_reducible apply But.alloc | (with_reducible refine But.setNew ?_ (by simp; try omega) _))))) cp2).mono ?_; rintro e y4 ⟨v4, rfl, oA, k4⟩; obtain ⟨ao4, cap4, hfm⟩ := oA.form; subst hfm; obtain ⟨lo4, hlo4, oA⟩ : ∃ lo, lo = _ ∧ TxtO y4 lo y4.heap.size _ T := ⟨_, rfl, oA⟩; (try simp at hlo4); have hcy4 := k4.cell_eq; have hfy4 := k4.frozen_eq; have hzy4 := k4.size; (try simp at hzy4); have n0y4 : w.heap.size < y4.heap.size := (by omega); have kwy4 : Kept u2 y4 := (But.trans (by (repeat (first | with_reducible exact kwy3 | with_reducible apply But.drewN | with_reducible apply But.drew | with_reducible apply But.alloc | (with_reducible refine But.setNew ?_ (by simp; try omega) _)))) k4); have a0y4 := Kept.cell kwy4 a0; have a1y4 := Kept.cell kwy4 a1; have a2y4 := Kept.cell kwy4 a2; (try have m1y4 : u2.heap.size < y4.heap.size := (by omega)); (try have m2y4 : y2.heap.size < y4.heap.size := (by omega)); (try have m3y4 : y3.heap.size < y4.heap.size := (by omega)); (try have ys00 : (y4.cell? ⟨u2.heap.size, 0, none⟩).isSome = true := (by first | (simp [go_sem, *]; done) | fail)); (try have yf00 : y4.frozen? ⟨u2.heap.size, 0, none⟩ = false := (by first | (simp [go_sem, *]; done) | fail)); (try have ys01 : (y4.cell? ⟨u2.heap.size, 1, none⟩).isSome = true := (by first | (simp [go_sem, *]; done) | fail)); (try have yf01 : y4.frozen? ⟨u2.heap.size, 1, none⟩ = false := (by first | (simp [go_sem, *]; done) | fail)); (try have ys02 : (y4.cell? ⟨u2.heap.size, 2, none⟩).isSome = true := (by first | (simp [go_sem, *]; done) | fail)); (try have yf02 : y4.frozen? ⟨u2.heap.size, 2, none⟩ = false := (by first | (simp [go_sem, *]; done) | fail)); (try have ys10 : (y4.cell? ⟨y2.heap.size, 0, none⟩).isSome = true := (by first | (simp [go_sem, *]; done) | fail)); (try have yf10 : y4.frozen? ⟨y2.heap.size, 0, none⟩ = false := (by first | (simp [go_sem, *]; done) | fail)); (try have ys11 : (y4.cell? ⟨y2.heap.size, 1, none⟩).isSome = true := (by first | (simp [go_sem, *]; done) | fail)); (try have yf11 : y4.frozen? ⟨y2.heap.size, 1, none⟩ = false := (by first | (simp [go_sem, *]; done) | fail)); (try have ys12 : (y4.cell? ⟨y2.heap.size, 2, none⟩).isSome = true := (by first | (simp [go_sem, *]; done) | fail)); (try have yf12 : y4.frozen? ⟨y2.heap.size, 2, none⟩ = false := (by first | (simp [go_sem, *]; done) | fail)); (try have ys20 : (y4.cell? ⟨y3.heap.size, 0, none⟩).isSome = true := (by first | (simp [go_sem, *]; done) | fail)); (try have yf20 : y4.frozen? ⟨y3.heap.size, 0, none⟩ = false := (by first | (simp [go_sem, *]; done) | fail)); (try have ys21 : (y4.cell? ⟨y3.heap.size, 1, none⟩).isSome = true := (by first | (simp [go_sem, *]; done) | fail)); (try have yf21 : y4.frozen? ⟨y3.heap.size, 1, none⟩ = false := (by first | (simp [go_sem, *]; done) | fail)); (try have ys22 : (y4.cell? ⟨y3.heap.size, 2, none⟩).isSome = true := (by first | (simp [go_sem, *]; done) | fail)); (try have yf22 : y4.frozen? ⟨y3.heap.size, 2, none⟩ = false := (by first | (simp [go_sem, *]; done) | fail))))
    · repeat (first | go_values | go_skip | go_guarded | go_step | go_upon)
      go_meet
      case rel =>
        refine ⟨_, ao4, cap4, rfl, rfl, rfl, ⟨by simp [go_sem, *], by simp [go_sem, *], by simp [go_sem, *], by simp; try omega⟩, by omega, by (repeat (first | with_reducible exact kwy4 | with_reducible apply But.drewN | with_reducible apply But.drew | with_reducible apply But.alloc | (with_reducible refine But.setNew ?_ (by simp; try omega) _))), lo4, y4.heap.size, by omega, by omega, by simp, ?_⟩
        exact TxtO.kept oA ((But.refl _ _ _).alloc _)
    · repeat (first | go_values | go_skip | go_guarded | go_step | go_upon)
      go_meet
      case rel =>
        refine ⟨_, ao4, cap4, rfl, rfl, rfl, ⟨by simp [go_sem, *], by simp [go_sem, *], by simp [go_sem, *], by simp; try omega⟩, by omega, by (repeat (first | with_reducible exact kwy4 | with_reducible apply But.drewN | with_reducible apply But.drew | with_reducible apply But.alloc | (with_reducible refine But.setNew ?_ (by simp; try omega) _))), lo4, y4.heap.size, by omega, by omega, by simp, ?_⟩
        exact TxtO.but (lo' := y3.heap.size) (hi' := y3.heap.size + 1) oA ((((But.refl _ _ _).setCell (by simp) (by simp) _).setCell (by simp) (by simp) _).setCell (by simp) (by simp) _) (by omega)
    · repeat (first | go_values | go_skip | go_guarded | go_step | go_upon)
      go_meet
      case rel =>
        refine ⟨_, ao4, cap4, rfl, rfl, rfl, ⟨by simp [go_sem, *], by simp [go_sem, *], by simp [go_sem, *], by simp; try omega⟩, by omega, by (repeat (first | with_reducible exact kwy4 | with_reducible apply But.drewN | with_reducible apply But.drew | with_reducible apply But.alloc | (with_reducible refine But.setNew ?_ (by simp; try omega) _))), lo4, y4.heap.size, by omega, by omega, by simp, ?_⟩
        exact TxtO.but (lo' := y2.heap.size) (hi' := y2.heap.size + 1) oA ((((But.refl _ _ _).setCell (by simp) (by simp) _).setCell (by simp) (by simp) _).setCell (by simp) (by simp) _) (by omega)
    · repeat (first | go_values | go_skip | go_guarded | go_step | go_upon)
      go_meet
      case rel =>
        refine ⟨_, ao4, cap4, rfl, rfl, rfl, ⟨by simp [go_sem, *], by simp [go_sem, *], by simp [go_sem, *], by simp; try omega⟩, by omega, by (repeat (first | with_reducible exact kwy4 | with_reducible apply But.drewN | with_reducible apply But.drew | with_reducible apply But.alloc | (with_reducible refine But.setNew ?_ (by simp; try omega) _))), lo4, y4.heap.size, by omega, by omega, by simp, ?_⟩
        exact TxtO.but (lo' := u2.heap.size) (hi' := u2.heap.size + 1) oA ((((But.refl _ _ _).setCell (by simp) (by simp) _).setCell (by simp) (by simp) _).setCell (by simp) (by simp) _) (by omega)
  case rest =>
    obtain ⟨gw, ao4, cap4, rfl, rfl, rfl, Lw, hgw, k4, lo3, hi3, hlo3, hg3, hhi3, ow⟩ := hcut
    have hw2 : w.heap.size < u2.heap.size := al
    have s4 := k4.size
    have hgl := Lw.2.2.2
    have K4 := K2.trans k4
    have La := La.kept k4
    clear a0 a1 a2 al K2 k4
    repeat (first | go_values | go_skip | go_guarded | go_step | go_upon)
    go_at_call 7
    refine (toSecs l _ _ (hv.kept K4) hc).mono ?_
    rintro e u5 ⟨v5, rfl, ox, k5⟩
    have K5 := K4.trans k5
    have La := La.kept k5
    have Lw := Lw.kept k5
    have ow := ow.kept k5
    have s5 := k5.size
    obtain ⟨ao5, cap5, hfm⟩ := ox.form
    subst hfm
    have cp5 := cap_of ox
    obtain ⟨lo5, hlo5, ox⟩ : ∃ lo, lo = _ ∧ SecsO u5 lo u5.heap.size _ l := ⟨_, rfl, ox⟩
    clear K4 k5
    have a0 := La.cell 0 rfl
    have a1 := La.cell 1 rfl
    have a2 := La.cell 2 rfl
    have al := La.lt
    dsimp only
    repeat (first | go_values | go_skip | go_guarded | go_step | go_upon)
    go_at_call 8
    refine (toMusic m0 m1 m2 _).mono ?_
    rintro e u6 ⟨rfl, k6⟩
    have K6 := K5.trans k6
    have La := La.kept k6
    have Lw := Lw.kept k6
    have ow := ow.kept k6
    have ox := ox.kept k6
    have s6 := k6.size
    clear K5 k6
    clear a0 a1 a2 al
    dsimp only
    repeat (first | go_values | go_skip | go_guarded | go_step | go_upon)
    go_at_call 9
    refine (HI.out _ _ _ ox.at cp5).mono ?_
    rintro e u9 ⟨v9, rfl, og, k9⟩
    have K9 := K6.trans k9
    have La := La.kept k9
    have Lw := Lw.kept k9
    have ow := ow.kept k9
    have ox := ox.kept k9
    have s9 := k9.size
    obtain ⟨ao9, cap9, hfm⟩ := og.form
    subst hfm
    clear K6 k9
    have x0 := Lw.1
    have x1 := Lw.2.1
    have x2 := Lw.2.2.1
    have xl := Lw.2.2.2
    dsimp only
    repeat (first | go_values | go_skip | go_guarded | go_step | go_upon)
    go_at_call 10
    refine (eqMusic r0 r1 r2 _).mono ?_
    rintro e u10 ⟨rfl, k10⟩
    have j10 : Kept u9 u10 := ((But.refl _ _ _).alloc _).trans k10
    have K10 := K9.trans j10
    have La := La.kept j10
    have Lw := Lw.kept j10
    have ow := ow.kept j10
    have ox := ox.kept j10
    have og := og.kept j10
    have Lg := (Loc.new u9 [.string r0, .int .i64 r1, .string r2] 27).kept k10
    have s10 := j10.size
    have hw10 := Lg.lt
    clear K9 k10 j10 x0 x1 x2 xl
    dsimp only
    repeat (first | go_values | go_skip | go_guarded | go_step | go_upon)
    go_at_call 11
    refine (eqTxtS T _ _ _ og.at ow.at (by omega)).mono ?_
    rintro e u11 ⟨rfl, k11⟩
    have K11 := K10.trans k11
    have La := La.kept k11
    have Lw := Lw.kept k11
    have ow := ow.kept k11
    have ox := ox.kept k11
    have og := og.kept k11
    have Lg := Lg.kept k11
    have s11 := k11.size
    clear K10 k11
    dsimp only
    repeat (first | go_values | go_skip | go_guarded | go_step | go_upon)
    go_at_call 7
    refine (toSecs l _ _ (hv.kept K11) hc).mono ?_
    rintro e u12 ⟨v12, rfl, o12, k12⟩
    have K12 := K11.trans k12
    have La := La.kept k12
    have Lw := Lw.kept k12
    have ow := ow.kept k12
    have ox := ox.kept k12
    have og := og.kept k12
    have Lg := Lg.kept k12
    have s12 := k12.size
    obtain ⟨ao12, cap12, hfm⟩ := o12.form
    subst hfm
    clear K11 k12
    dsimp only
    repeat (first | go_values | go_skip | go_guarded | go_step | go_upon)
    go_at_call 12
    refine (eqSecs l _ _ _ ox.at o12.at (by omega)).mono ?_
    rintro e u13 ⟨rfl, k13⟩
    have K13 := K12.trans k13
    have La := La.kept k13
    have Lw := Lw.kept k13
    have ow := ow.kept k13
    have ox := ox.kept k13
    have og := og.kept k13
    have Lg := Lg.kept k13
    have s13 := k13.size
    clear K12 k13 o12
    obtain ⟨tx, ox, ex⟩ := ox
    have hex := sMk_le ex
    have htx : tx.length = l.length := secs_len ex
    have hll2 : l.length ≤ 1048576 := by unfold secsCost at hc; omega
    dsimp only
    repeat (first | go_values | go_skip | go_guarded | go_step | go_upon)
    go_at_call 13
    refine (markSs tx _ 1 lo5 u5.heap.size _ ox (by omega) (by omega)).mono ?_
    rintro e u14 ⟨rfl, k14⟩
    obtain ⟨q1, hq1⟩ : ∃ q, 1 + sMk tx = q := ⟨_, rfl⟩
    rw [hq1]
    have hdq1 : decide ((q1 : Int) < 0) = false := by simp
    clear hq1
    have K14 : Kept w _ := But.onto K13 k14 (by omega)
    have La := La.but k14 (by omega)
    have Lw := Lw.but k14 (by omega)
    have ow := ow.but k14 (by omega)
    have og := og.but k14 (by omega)
    have Lg := Lg.but k14 (by omega)
    have s14 := k14.size
    clear k14 K13 ox
    have x0 := Lw.1
    have x1 := Lw.2.1
    have x2 := Lw.2.2.1
    have xl := Lw.2.2.2
    have g0 := Lg.cell 0 rfl
    have g1 := Lg.cell 1 rfl
    have g2 := Lg.cell 2 rfl
    have gl := Lg.lt
    dsimp only
    repeat (first | go_values | go_skip | go_guarded | go_step | go_upon)
    go_at_call 10
    refine (eqMusic r0 r1 r2 _).mono ?_
    rintro e u15 ⟨rfl, k15⟩
    have K15 := K14.trans k15
    have La := La.kept k15
    have Lw := Lw.kept k15
    have ow := ow.kept k15
    have og := og.kept k15
    have Lg := Lg.kept k15
    have s15 := k15.size
    clear K14 k15 x0 x1 x2 xl
    clear g0 g1 g2 gl
    dsimp only
    repeat (first | go_values | go_skip | go_guarded | go_step | go_upon)
    go_at_call 11
    refine (eqTxtS T _ _ _ og.at ow.at (by omega)).mono ?_
    rintro e u16 ⟨rfl, k16⟩
    have K16 := K15.trans k16
    have La := La.kept k16
    have Lw := Lw.kept k16
    have ow := ow.kept k16
    have og := og.kept k16
    have Lg := Lg.kept k16
    have s16 := k16.size
    clear K15 k16 hdq1
    dsimp only
    repeat (first | go_values | go_skip | go_guarded | go_step | go_upon)
    go_at_call 14
    refine (markTxtS T _ 1 u6.heap.size u9.heap.size _ og (by omega)).mono ?_
    rintro e u17 ⟨rfl, o15, b17⟩
    obtain ⟨q3, hq3⟩ : ∃ q, 1 + T.length = q := ⟨_, rfl⟩
    rw [hq3]
    have HQ3 : Hid (1 + T.length = q3) := hq3
    have hdq3 : decide ((q3 : Int) < 0) = false := by simp
    clear hq3
    have k17 := b17.inner og
    have K17 : Kept w _ := But.onto K16 k17 (by omega)
    have La := La.but k17 (by omega)
    have Lw := Lw.but k17 (by omega)
    have ow := ow.but k17 (by omega)
    have Lg := Lg.but k17 (by omega)
    have s17 := k17.size
    clear k17 b17 K16 og
    dsimp only
    repeat (first | go_values | go_skip | go_guarded | go_step | go_upon)
    go_at_call 15
    refine (heldTxtS T.length _ 1 _ o15.at (by omega)).mono ?_
    rintro e u18 ⟨rfl, k18⟩
    rw [HQ3.out]
    have K18 := K17.trans k18
    have La := La.kept k18
    have Lw := Lw.kept k18
    have ow := ow.kept k18
    have Lg := Lg.kept k18
    have o15 := o15.kept k18
    have s18 := k18.size
    clear K17 k18
    have a0 := La.cell 0 rfl
    have a1 := La.cell 1 rfl
    have a2 := La.cell 2 rfl
    have al := La.lt
    dsimp only
    repeat (first | go_values | go_skip | go_guarded | go_step | go_upon)
    go_cut [18, 19, 20] from 105 to 114 (fun v6 v7 v8 wx => ∃ gw aoA capA, v6 = .pointer (some ⟨gw, 0, none⟩) ∧ v7 = .slice aoA T.length capA ∧ v8 = .bool jb ∧ LocR3 wx gw (.string r0) (.int .i64 r1) (.string r2) ∧ u18.heap.size ≤ gw ∧ Kept u18 wx ∧ ∃ lo hi, u18.heap.size ≤ lo ∧ (gw < lo ∨ hi ≤ gw) ∧ hi ≤ wx.heap.size ∧ TxtO wx lo hi (.slice aoA T.length capA) T)
    case first =>
      go_region_held3 (fun w' => w'.cell? ⟨w.heap.size, 0, none⟩ = some (.string m0) ∧ w'.cell? ⟨w.heap.size, 1, none⟩ = some (.int .i64 m1) ∧ w'.cell? ⟨w.heap.size, 2, none⟩ = some (.string m2)) (simp [go_sem, *])
        (first | (go_at_call 7; refine (toSecs l _ _ (hv.kept (But.trans K18 (by (repeat (first | with_reducible exact But.refl _ _ _ | with_reducible apply But.drewN | with_reducible apply But.drew | with_reducible apply But.alloc | (with_reducible refine But.setNew ?_ (by simp; try omega) _)))))) hc).mono ?_; rintro e y2 ⟨v2, rfl, o2, k2⟩; obtain ⟨ao2, cap2, hfm⟩ := o2.form; subst hfm; have cp2 := cap_of o2; have o2 := o2.at; have hcy2 := k2.cell_eq; have hfy2 := k2.frozen_eq; have hzy2 := k2.size; (try simp at hzy2); have n0y2 : w.heap.size < y2.heap.size := (by omega); have kwy2 : Kept u18 y2 := (But.trans (by (repeat (first | with_reducible exact But.refl _ _ _ | with_reducible apply But.drewN | with_reducible apply But.drew | with_reducible apply But.alloc | (with_reducible refine But.setNew ?_ (by simp; try omega) _)))) k2); have a0y2 := Kept.cell kwy2 a0; have a1y2 := Kept.cell kwy2 a1; have a2y2 := Kept.cell kwy2 a2; (try have m1y2 : u18.heap.size < y2.heap.size := (by omega)))
                 | (go_at_call 8; refine (toMusic m0 m1 m2 _).mono ?_; rintro e y3 ⟨rfl, k3⟩; have o2 := SecsAt.kept o2 (But.trans (by (repeat (first | with_reducible exact But.refl _ _ _ | with_reducible apply But.drewN | with_reducible apply But.drew | with_reducible apply But.alloc | (with_reducible refine But.setNew ?_ (by simp; try omega) _)))) k3); have hcy3 := k3.cell_eq; have hfy3 := k3.frozen_eq; have hzy3 := k3.size; (try simp at hzy3); have n0y3 : w.heap.size < y3.heap.size := (by omega); have kwy3 : Kept u18 y3 := (But.trans (by (repeat (first | with_reducible exact kwy2 | with_reducible apply But.drewN | with_reducible apply But.drew | with_reducible apply But.alloc | (with_reducible refine But.setNew ?_ (by simp; try omega) _)))) k3); have a0y3 := Kept.cell kwy3 a0; have a1y3 := Kept.cell kwy3 a1; have a2y3 := Kept.cell kwy3 a2; (try have m1y3 : u18.heap.size < y3.heap.size := (by omega)); (try have m2y3 : y2.heap.size < y3.heap.size := (by omega)))
                 | (go_at_call 9; refine (HI.out _ _ _ (SecsAt.kept o2 (by (repeat (first | with_reducible exact But.refl _ _ _ | with_reducible apply But.drewN | with_reducible apply But.drew | with_reducible apply But.alloc | (with_reducible refine But.setNew ?_ (by simp; try omega) _))))) cp2).mono ?_; rintro e y4 ⟨v4, rfl, oA, k4⟩; obtain ⟨ao4, cap4, hfm⟩ := oA.form; subst hfm; obtain ⟨lo4, hlo4, oA⟩ : ∃ lo, lo = _ ∧ TxtO y4 lo y4.heap.size _ T := ⟨_, rfl, oA⟩; (try simp at hlo4); have hcy4 := k4.cell_eq; have hfy4 := k4.frozen_eq; have hzy4 := k4.size; (try simp at hzy4); have n0y4 : w.heap.size < y4.heap.size := (by omega); have kwy4 : Kept u18 y4 := (But.trans (by (repeat (first | with_reducible exact kwy3 | with_reducible apply But.drewN | with_reducible apply But.drew | with_reducible apply But.alloc | (with_reducible refine But.setNew ?_ (by simp; try omega) _)))) k4); have a0y4 := Kept.cell kwy4 a0; have a1y4 := Kept.cell kwy4 a1; have a2y4 := Kept.cell kwy4 a2; (try have m1y4 : u18.heap.size < y4.heap.size := (by omega)); (try have m2y4 : y2.heap.size < y4.heap.size := (by omega)); (try have m3y4 : y3.heap.size < y4.heap.size := (by omega)); (try have ys00 : (y4.cell? ⟨u18.heap.size, 0, none⟩).isSome = true := (by first | (simp [go_sem, *]; done) | fail)); (try have yf00 : y4.frozen? ⟨u18.heap.size, 0, none⟩ = false := (by first | (simp [go_sem, *]; done) | fail)); (try have ys01 : (y4.cell? ⟨u18.heap.size, 1, none⟩).isSome = true := (by first | (simp [go_sem, *]; done) | fail)); (try have yf01 : y4.frozen? ⟨u18.heap.size, 1, none⟩ = false := (by first | (simp [go_sem, *]; done) | fail)); (try have ys02 : (y4.cell? ⟨u18.heap.size, 2, none⟩).isSome = true := (by first | (simp [go_sem, *]; done) | fail)); (try have yf02 : y4.frozen? ⟨u18.heap.size, 2, none⟩ = false := (by first | (simp [go_sem, *]; done) | fail)); (try have ys10 : (y4.cell? ⟨y2.heap.size, 0, none⟩).isSome = true := (by first | (simp [go_sem, *]; done) | fail)); (try have yf10 : y4.frozen? ⟨y2.heap.size, 0, none⟩ = false := (by first | (simp [go_sem, *]; done) | fail)); (try have ys11 : (y4.cell? ⟨y2.heap.size, 1, none⟩).isSome = true := (by first | (simp [go_sem, *]; done) | fail)); (try have yf11 : y4.frozen? ⟨y2.heap.size, 1, none⟩ = false := (by first | (simp [go_sem, *]; done) | fail)); (try have ys12 : (y4.cell? ⟨y2.heap.size, 2, none⟩).isSome = true := (by first | (simp [go_sem, *]; done) | fail)); (try have yf12 : y4.frozen? ⟨y2.heap.size, 2, none⟩ = false := (by first | (simp [go_sem, *]; done) | fail)); (try have ys20 : (y4.cell? ⟨y3.heap.size, 0, none⟩).isSome = true := (by first | (simp [go_sem, *]; done) | fail)); (try have yf20 : y4.frozen? ⟨y3.heap.size, 0, none⟩ = false := (by first | (simp [go_sem, *]; done) | fail)); (try have ys21 : (y4.cell? ⟨y3.heap.size, 1, none⟩).isSome = true := (by first | (simp [go_sem, *]; done) | fail)); (try have yf21 : y4.frozen? ⟨y3.heap.size, 1, none⟩ = false := (by first | (simp [go_sem, *]; done) | fail)); (try have ys22 : (y4.cell? ⟨y3.heap.size, 2, none⟩).isSome = true := (by first | (simp [go_sem, *]; done) | fail)); (try have yf22 : y4.frozen? ⟨y3.heap.size, 2, none⟩ = false := (by first | (simp [go_sem, *]; done) | fail))))
      · repeat (first | go_values | go_skip | go_guarded | go_step | go_upon)
        go_meet
        case rel =>
          refine ⟨_, ao4, cap4, rfl, rfl, rfl, ⟨by simp [go_sem, *], by simp [go_sem, *], by simp [go_sem, *], by simp; try omega⟩, by omega, by (repeat (first | with_reducible exact kwy4 | with_reducible apply But.drewN | with_reducible apply But.drew | with_reducible apply But.alloc | (with_reducible refine But.setNew ?_ (by simp; try omega) _))), lo4, y4.heap.size, by omega, by omega, by simp, ?_⟩
          exact TxtO.kept oA ((But.refl _ _ _).alloc _)
      · repeat (first | go_values | go_skip | go_guarded | go_step | go_upon)
        go_meet
        case rel =>
          refine ⟨_, ao4, cap4, rfl, rfl, rfl, ⟨by simp [go_sem, *], by simp [go_sem, *], by simp [go_sem, *], by simp; try omega⟩, by omega, by (repeat (first | with_reducible exact kwy4 | with_reducible apply But.drewN | with_reducible apply But.drew | with_reducible apply But.alloc | (with_reducible refine But.setNew ?_ (by simp; try omega) _))), lo4, y4.heap.size, by omega, by omega, by simp, ?_⟩
          exact TxtO.but (lo' := y3.heap.size) (hi' := y3.heap.size + 1) oA ((((But.refl _ _ _).setCell (by simp) (by simp) _).setCell (by simp) (by simp) _).setCell (by simp) (by simp) _) (by omega)
      · repeat (first | go_values | go_skip | go_guarded | go_step | go_upon)
        go_meet
        case rel =>
          refine ⟨_, ao4, cap4, rfl, rfl, rfl, ⟨by simp [go_sem, *], by simp [go_sem, *], by simp [go_sem, *], by simp; try omega⟩, by omega, by (repeat (first | with_reducible exact kwy4 | with_reducible apply But.drewN | with_reducible apply But.drew | with_reducible apply But.alloc | (with_reducible refine But.setNew ?_ (by simp; try omega) _))), lo4, y4.heap.size, by omega, by omega, by simp, ?_⟩
          exact TxtO.but (lo' := y2.heap.size) (hi' := y2.heap.size + 1) oA ((((But.refl _ _ _).setCell (by simp) (by simp) _).setCell (by simp) (by simp) _).setCell (by simp) (by simp) _) (by omega)
      · repeat (first | go_values | go_skip | go_guarded | go_step | go_upon)
        go_meet
        case rel =>
          refine ⟨_, ao4, cap4, rfl, rfl, rfl, ⟨by simp [go_sem, *], by simp [go_sem, *], by simp [go_sem, *], by simp; try omega⟩, by omega, by (repeat (first | with_reducible exact kwy4 | with_reducible apply But.drewN | with_reducible apply But.drew | with_reducible apply But.alloc | (with_reducible refine But.setNew ?_ (by simp; try omega) _))), lo4, y4.heap.size, by omega, by omega, by simp, ?_⟩
          exact TxtO.but (lo' := u18.heap.size) (hi' := u18.heap.size + 1) oA ((((But.refl _ _ _).setCell (by simp) (by simp) _).setCell (by simp) (by simp) _).setCell (by simp) (by simp) _) (by omega)
    case rest =>
      obtain ⟨gh, aoh, caph, rfl, rfl, rfl, Lh, hgh, kh, loh, hih, hloh, hgh3, hhih, oh⟩ := hcut
      have K25 := K18.trans kh
      have ow := ow.kept kh
      have Lw := Lw.kept kh
      have o15 := o15.kept kh
      clear a0 a1 a2 al K18 kh
      have x0 := Lw.1
      have x1 := Lw.2.1
      have x2 := Lw.2.2.1
      have xl := Lw.2.2.2
      have g0 := Lh.1
      have g1 := Lh.2.1
      have g2 := Lh.2.2.1
      have gl := Lh.2.2.2
      repeat (first | go_values | go_skip | go_guarded | go_step | go_upon)
      go_at_call 10
      refine (eqMusic r0 r1 r2 _).mono ?_
      rintro e u26 ⟨rfl, k26⟩
      have K26 := K25.trans k26
      have ow := ow.kept k26
      have oh := oh.kept k26
      have o15 := o15.kept k26
      clear K25 k26 x0 x1 x2 xl g0 g1 g2 gl
      dsimp only
      repeat (first | go_values | go_skip | go_guarded | go_step | go_upon)
      go_at_call 11
      refine (eqTxtS T _ _ _ oh.at ow.at (by omega)).mono ?_
      rintro e u27 ⟨rfl, k27⟩
      have K27 := K26.trans k27
      have o15 := o15.kept k27
      clear K26 k27
      dsimp only
      repeat (first | go_values | go_skip | go_guarded | go_step | go_upon)
      go_at_call 15
      refine (heldTxtS T.length _ 1 _ o15.at (by omega)).mono ?_
      rintro e u28 ⟨rfl, k28⟩
      rw [HQ3.out]
      have K28 := K27.trans k28
      dsimp only
      repeat (first | go_values | go_skip | go_guarded | go_step | go_upon)
      go_ret
      exact ⟨rfl, K28⟩

set_option maxRecDepth 100000 in
set_option maxHeartbeats 1000000 in
theorem big1 (l : List SectionD) (v : Value) (m0 : ByteArray) (m1 : Int) (m2 : ByteArray) (B : Int) (w : World) (hv : SecsAt w v l) (hfit : SecsFit l) (hll : l.length ≤ 9223372036854775807) (hl : 1048576 < secsCost l) :
    Calls Tryd.prog 3 #[v, .agg #[.string m0, .int .i64 m1, .string m2], .int .i64 B] w fun e w' => e = .returned (.bool true) ∧ Kept w w' := by
  obtain ⟨ao, cap, hfm⟩ := hv.form
  subst hfm
  go_enter Tryd.func3, Tryd.ntmps3
  repeat (first | go_values | go_skip | go_guarded | go_step | go_upon)
  go_at_call 4
  refine (szSecs l _ _ _ (hv.kept ((But.refl _ _ _).alloc _)) (by omega) (by omega) hll hfit).mono ?_
  rintro e u1 ⟨rfl, k1⟩
  rw [leftOf_no (by omega)]
  dsimp only
  repeat (first | go_values | go_skip | go_guarded | go_step | go_upon)
  go_ret
  exact ⟨rfl, ((But.refl _ _ _).alloc _).trans k1⟩
set_option maxRecDepth 100000 in
set_option maxHeartbeats 1000000 in
theorem big2 (l : List SectionD) (v : Value) (m0 : ByteArray) (m1 : Int) (m2 : ByteArray) (B : Int) (w : World) (hv : SecsAt w v l) (hfit : SecsFit l) (hc : secsCost l ≤ 1048576) (hz0 : m0.size ≤ 9223372036854775807) (hz2 : m2.size ≤ 9223372036854775807) (hl2 : 1048576 - secsCost l < m0.size + m2.size) :
    Calls Tryd.prog 3 #[v, .agg #[.string m0, .int .i64 m1, .string m2], .int .i64 B] w fun e w' => e = .returned (.bool true) ∧ Kept w w' := by
  obtain ⟨C, hC⟩ : ∃ C : Int, (secsCost l : Int) = C := ⟨_, rfl⟩
  have hM0 : 0 ≤ 1048576 - C ∧ 1048576 - C ≤ 1048576 := by omega
  have hM1 : 1048576 - C < ((m0.size + m2.size : Nat) : Int) := by omega
  have hd1 : decide ((1048576 : Int) - C < 0) = false := by simp; omega
  have hll : l.length ≤ 9223372036854775807 := by unfold secsCost at hc; omega
  have HC : Hid ((secsCost l : Int) = C) := hC
  clear hC hl2
  obtain ⟨ao, cap, hfm⟩ := hv.form
  subst hfm
  go_enter Tryd.func3, Tryd.ntmps3
  repeat (first | go_values | go_skip | go_guarded | go_step | go_upon)
  go_at_call 4
  refine (szSecs l _ _ _ (hv.kept ((But.refl _ _ _).alloc _)) (by omega) (by omega) hll hfit).mono ?_
  rintro e u1 ⟨rfl, k1⟩
  rw [leftOf_yes (by omega), HC.out]
  have K1 : Kept w u1 := ((But.refl _ _ _).alloc _).trans k1
  have La := (Loc.new w [.string m0, .int .i64 m1, .string m2] 24).kept k1
  clear k1
  have a0 := La.cell 0 rfl
  have a1 := La.cell 1 rfl
  have a2 := La.cell 2 rfl
  have al := La.lt
  dsimp only
  repeat (first | go_values | go_skip | go_guarded | go_step | go_upon)
  go_at_call 5
  refine (szMusic m0 m1 m2 _ _ hM0.1 hM0.2 hz0 hz2).mono ?_
  rintro e u2 ⟨rfl, k2⟩
  rw [leftOf_no hM1]
  dsimp only
  repeat (first | go_values | go_skip | go_guarded | go_step | go_upon)
  go_ret
  exact ⟨rfl, K1.trans k2⟩

theorem all (l : List SectionD) (v : Value) {w : World} (hv : SecsAt w v l) (hfit : SecsFit l) (hll : l.length ≤ maxLen) (m : MusicD) (hz : m.1.size ≤ maxLen ∧ m.2.2.size ≤ maxLen) (B : Int) (w' : World) (_ : w' = w) :
    Calls Tryd.prog 3 #[v, .agg (musicC m).toArray, .int .i64 B] w fun e w' => e = .returned (.bool true) ∧ Kept w w' := by
  unfold maxLen at hz hll
  by_cases hl : secsCost l ≤ 1048576
  · by_cases hl2 : m.1.size + m.2.2.size ≤ 1048576 - secsCost l
    · by_cases hb : MusicP l (m.1, m.2.1, m.2.2) ∧ (0 ≤ B ∧ B ≤ 1000)
      · obtain ⟨N, hN⟩ : ∃ N : Nat, B = (N : Int) := ⟨B.toNat, by omega⟩
        refine walk l v m.1 m.2.1 m.2.2 B (runS l (m.1, m.2.1, m.2.2) N).1.1 (runS l (m.1, m.2.1, m.2.2) N).1.2.1 (runS l (m.1, m.2.1, m.2.2) N).1.2.2 (runS l (m.1, m.2.1, m.2.2) N).2 true w hv hfit hl hl2 (by rw [run_len]; omega) (fun u ao cap h hcp => ?_) (fun u ao cap h hcp => ?_)
        · exact srun l ao cap _ _ _ B u h hcp hl N hN (by omega) hb.1
        · exact irun l ao cap _ _ _ B u h hcp hl N hN (by omega) hb.1
      · refine walk l v m.1 m.2.1 m.2.2 B ⟨#[]⟩ 0 ⟨#[]⟩ [] false w hv hfit hl hl2 (by simp) (fun u ao cap h hcp => ?_) (fun u ao cap h hcp => ?_)
        · refine (srun_bad l ao cap _ _ _ B u h hcp hl hb).mono ?_
          rintro e u' ⟨rfl, k⟩
          exact ⟨_, rfl, ⟨World.ownsRow_nil _ _ _ _, fun g hg => by simp [Value.ownBlock] at hg⟩, k⟩
        · refine (irun_bad l ao cap _ _ _ B u h hcp hl hb).mono ?_
          rintro e u' ⟨rfl, k⟩
          exact ⟨_, rfl, ⟨World.ownsRow_nil _ _ _ _, fun g hg => by simp [Value.ownBlock] at hg⟩, k⟩
    · exact big2 l v m.1 m.2.1 m.2.2 B w hv hfit hl (by omega) (by omega) (by omega)
  · exact big1 l v m.1 m.2.1 m.2.2 B w hv hfit (by omega) (by omega)

end Go.Proofs.YtapfafibhjpkdaaDoor.fnExactRunMusic
