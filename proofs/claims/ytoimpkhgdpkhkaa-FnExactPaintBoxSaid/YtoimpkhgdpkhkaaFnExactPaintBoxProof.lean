/-
  At every sheet, box and color the program's PaintBox answers what the specification's PaintBox answers, writes into no argument and keeps nothing of one; its answer owns its memory.
-/
import Derived.Test.YtoimpkhgdpkhkaaRows
import Derived.Test.YtoimpkhgdpkhkaaSheetF
import Derived.Test.YtoimpkhgdpkhkaaSheetG
import Derived.Test.YtoimpkhgdpkhkaaOpenF
import Derived.Test.YtoimpkhgdpkhkaaPlacedO
import Derived.Test.YtoimpkhgdpkhkaaPlaced
import Derived.Test.YtoimpkhgdpkhkaaIBox20
import Derived.Test.YtoimpkhgdpkhkaaSBox20
import Derived.ChangeMaps
import Derived.Deep.CutRange
import Derived.Deep.RegionHeld3
namespace Go.Proofs.Ytoimpkhgdpkhkaa.fnExactPaintBox
open Go.ChangeShapes Go.WideShapes Go.ChangeAt Go.RowKit
set_option linter.unusedVariables false

theorem own : ownKnob Try.prog.godebug = none := by kernel_rfl


/-- A variable of three cells, read alone. -/
def LocR (w : World) (b : Nat) (x y z : Value) : Prop := w.cell? ⟨b, 0, none⟩ = some x ∧ w.cell? ⟨b, 1, none⟩ = some y ∧ w.cell? ⟨b, 2, none⟩ = some z ∧ b < w.heap.size
theorem LocR.but {w w' : World} {b lo hi : Nat} {x y z : Value} (h : LocR w b x y z) (k : But lo hi w w') (ho : b < lo ∨ hi ≤ b) : LocR w' b x y z := ⟨But.cell k h.1 ho, But.cell k h.2.1 ho, But.cell k h.2.2.1 ho, Nat.lt_of_lt_of_le h.2.2.2 k.size⟩
theorem LocR.kept {w w' : World} {b : Nat} {x y z : Value} (h : LocR w b x y z) (k : Kept w w') : LocR w' b x y z := h.but k (by omega)
set_option maxRecDepth 100000 in
set_option maxHeartbeats 16000000 in
theorem walk (c R : SheetD) (x y a b col : Int) (jb : Bool) (v : Value) (w : World) (hv : SheetAt w v c) (hn : c.2.2.length ≤ 1048576) (hR : R.2.2.length ≤ 100000000)
    (hS : ∀ (u : World) (v : Value), SheetAt u v c → Calls Try.prog 27 #[v, .agg #[.int .i64 x, .int .i64 y, .int .i64 a, .int .i64 b], .int .i64 col] u fun e u' => ∃ v', e = .returned (.tuple #[v', .bool jb]) ∧ SheetO u' u.heap.size u'.heap.size v' R ∧ Kept u u')
    (hI : ∀ (u : World) (v : Value), SheetAt u v c → Calls Try.prog 28 #[v, .agg #[.int .i64 x, .int .i64 y, .int .i64 a, .int .i64 b], .int .i64 col] u fun e u' => ∃ v', e = .returned (.tuple #[v', .bool jb]) ∧ SheetO u' u.heap.size u'.heap.size v' R ∧ Kept u u') :
    Calls Try.prog 6 #[v, .agg #[.int .i64 x, .int .i64 y, .int .i64 a, .int .i64 b], .int .i64 col] w fun e w' => e = .returned (.bool true) ∧ Kept w w' := by
  obtain ⟨q1, hq1⟩ : ∃ q, 1 + c.2.2.length = q := ⟨_, rfl⟩
  obtain ⟨q3, hq3⟩ : ∃ q, 1 + R.2.2.length = q := ⟨_, rfl⟩
  have hdq1 : decide ((q1 : Int) < 0) = false := by simp
  have hdq3 : decide ((q3 : Int) < 0) = false := by simp
  have HQ1 : Hid (1 + c.2.2.length = q1) := hq1
  have HQ3 : Hid (1 + R.2.2.length = q3) := hq3
  clear hq1 hq3
  have hdl : decide ((1048576 : Int) - (c.2.2.length : Int) < 0) = false := by simp; omega
  obtain ⟨ao, cap, hfm⟩ := hv.form
  subst hfm
  have HS : Hid (∀ (u : World) (v : Value), SheetAt u v c → Calls Try.prog 27 #[v, .agg #[.int .i64 x, .int .i64 y, .int .i64 a, .int .i64 b], .int .i64 col] u fun e u' => ∃ v', e = .returned (.tuple #[v', .bool jb]) ∧ SheetO u' u.heap.size u'.heap.size v' R ∧ Kept u u') := hS
  have HI : Hid (∀ (u : World) (v : Value), SheetAt u v c → Calls Try.prog 28 #[v, .agg #[.int .i64 x, .int .i64 y, .int .i64 a, .int .i64 b], .int .i64 col] u fun e u' => ∃ v', e = .returned (.tuple #[v', .bool jb]) ∧ SheetO u' u.heap.size u'.heap.size v' R ∧ Kept u u') := hI
  clear hS hI
  go_enter Try.func6, Try.ntmps6
  repeat (first | go_values | go_skip | go_guarded | go_step | go_upon)
  go_at_call 22
  refine (szSheet c _ _ _ (hv.kept (((But.refl _ _ w).alloc _).alloc _)) (by omega) (by omega) (by omega)).mono ?_
  rintro e u2 ⟨rfl, k2⟩
  rw [leftOf_yes (by omega)]
  have K2 : Kept w u2 := (((But.refl _ _ w).alloc _).alloc _).trans k2
  have La := ((Loc.new w [.int .i64 c.1, .int .i64 c.2.1, .slice ao c.2.2.length cap] 46).alloc (.cells #[.int .i64 x, .int .i64 y, .int .i64 a, .int .i64 b] 23)).kept k2
  have Lb := (Loc.new (w.alloc (.cells #[.int .i64 c.1, .int .i64 c.2.1, .slice ao c.2.2.length cap] 46)) [.int .i64 x, .int .i64 y, .int .i64 a, .int .i64 b] 23).kept k2
  simp only [World.size_alloc] at Lb
  clear k2
  have a0 := La.cell 0 rfl
  have a1 := La.cell 1 rfl
  have a2 := La.cell 2 rfl
  have al := La.lt
  have b0 := Lb.cell 0 rfl
  have b1 := Lb.cell 1 rfl
  have b2 := Lb.cell 2 rfl
  have b3 := Lb.cell 3 rfl
  have bl := Lb.lt
  dsimp only
  repeat (first | go_values | go_skip | go_guarded | go_step | go_upon)
  go_cut [8, 9] from 23 to 31 (fun v6 v7 wx => ∃ gw aoA capA, v6 = .pointer (some ⟨gw, 0, none⟩) ∧ v7 = .bool jb ∧ LocR wx gw (.int .i64 R.1) (.int .i64 R.2.1) (.slice aoA R.2.2.length capA) ∧ u2.heap.size ≤ gw ∧ Kept u2 wx ∧ ∃ lo hi, u2.heap.size ≤ lo ∧ (gw < lo ∨ hi ≤ gw) ∧ hi ≤ wx.heap.size ∧ SheetO wx lo hi (.agg #[.int .i64 R.1, .int .i64 R.2.1, .slice aoA R.2.2.length capA]) R)
  case first =>
    go_region_held3 (fun w' => w'.cell? ⟨w.heap.size, 0, none⟩ = some (.int .i64 c.1) ∧ w'.cell? ⟨w.heap.size, 1, none⟩ = some (.int .i64 c.2.1) ∧ w'.cell? ⟨w.heap.size, 2, none⟩ = some (.slice ao c.2.2.length cap) ∧ w'.cell? ⟨w.heap.size + 1, 0, none⟩ = some (.int .i64 x) ∧ w'.cell? ⟨w.heap.size + 1, 1, none⟩ = some (.int .i64 y) ∧ w'.cell? ⟨w.heap.size + 1, 2, none⟩ = some (.int .i64 a) ∧ w'.cell? ⟨w.heap.size + 1, 3, none⟩ = some (.int .i64 b)) (simp [go_sem, *])
      (first | (go_at_call 24; refine (toSheet c _ _ (hv.kept (But.trans K2 (by (repeat (first | with_reducible exact But.refl _ _ _ | with_reducible apply But.drewN | with_reducible apply But.drew | with_reducible apply But.alloc | (with_reducible refine But.setNew ?_ (by simp; try omega) _)))))) hn).mono ?_; rintro e y2 ⟨v2, rfl, o2, k2⟩; obtain ⟨ao2, cap2, hfm⟩ := o2.form; subst hfm; have o2 := o2.at; have hcy2 := k2.cell_eq; have hfy2 := k2.frozen_eq; have hzy2 := k2.size; (try simp at hzy2); have n0y2 : w.heap.size < y2.heap.size := (by omega); have n1y2 : w.heap.size + 1 < y2.heap.size := (by omega); have kwy2 : Kept u2 y2 := (But.trans (by (repeat (first | with_reducible exact But.refl _ _ _ | with_reducible apply But.drewN | with_reducible apply But.drew | with_reducible apply But.alloc | (with_reducible refine But.setNew ?_ (by simp; try omega) _)))) k2); have a0y2 := Kept.cell kwy2 a0; have a1y2 := Kept.cell kwy2 a1; have a2y2 := Kept.cell kwy2 a2; have b0y2 := Kept.cell kwy2 b0; have b1y2 := Kept.cell kwy2 b1; have b2y2 := Kept.cell kwy2 b2; have b3y2 := Kept.cell kwy2 b3; (try have m1y2 : u2.heap.size < y2.heap.size := (by omega)))
               | (go_at_call 15; refine (toPlaced _ _ _ _ _).mono ?_; rintro e y3 ⟨rfl, k3⟩; have o2 := SheetAt.kept o2 (But.trans (by (repeat (first | with_reducible exact But.refl _ _ _ | with_reducible apply But.drewN | with_reducible apply But.drew | with_reducible apply But.alloc | (with_reducible refine But.setNew ?_ (by simp; try omega) _)))) k3); have hcy3 := k3.cell_eq; have hfy3 := k3.frozen_eq; have hzy3 := k3.size; (try simp at hzy3); have n0y3 : w.heap.size < y3.heap.size := (by omega); have n1y3 : w.heap.size + 1 < y3.heap.size := (by omega); have kwy3 : Kept u2 y3 := (But.trans (by (repeat (first | with_reducible exact kwy2 | with_reducible apply But.drewN | with_reducible apply But.drew | with_reducible apply But.alloc | (with_reducible refine But.setNew ?_ (by simp; try omega) _)))) k3); have a0y3 := Kept.cell kwy3 a0; have a1y3 := Kept.cell kwy3 a1; have a2y3 := Kept.cell kwy3 a2; have b0y3 := Kept.cell kwy3 b0; have b1y3 := Kept.cell kwy3 b1; have b2y3 := Kept.cell kwy3 b2; have b3y3 := Kept.cell kwy3 b3; (try have m1y3 : u2.heap.size < y3.heap.size := (by omega)); (try have m2y3 : y2.heap.size < y3.heap.size := (by omega)))
               | (go_at_call 27; refine (HS.out _ _ (SheetAt.kept o2 (by (repeat (first | with_reducible exact But.refl _ _ _ | with_reducible apply But.drewN | with_reducible apply But.drew | with_reducible apply But.alloc | (with_reducible refine But.setNew ?_ (by simp; try omega) _)))))).mono ?_; rintro e y4 ⟨v4, rfl, oA, k4⟩; obtain ⟨ao4, cap4, hfm⟩ := oA.form; subst hfm; obtain ⟨lo4, hlo4, oA⟩ : ∃ lo, lo = _ ∧ SheetO y4 lo y4.heap.size _ R := ⟨_, rfl, oA⟩; (try simp at hlo4); have hcy4 := k4.cell_eq; have hfy4 := k4.frozen_eq; have hzy4 := k4.size; (try simp at hzy4); have n0y4 : w.heap.size < y4.heap.size := (by omega); have n1y4 : w.heap.size + 1 < y4.heap.size := (by omega); have kwy4 : Kept u2 y4 := (But.trans (by (repeat (first | with_reducible exact kwy3 | with_reducible apply But.drewN | with_reducible apply But.drew | with_reducible apply But.alloc | (with_reducible refine But.setNew ?_ (by simp; try omega) _)))) k4); have a0y4 := Kept.cell kwy4 a0; have a1y4 := Kept.cell kwy4 a1; have a2y4 := Kept.cell kwy4 a2; have b0y4 := Kept.cell kwy4 b0; have b1y4 := Kept.cell kwy4 b1; have b2y4 := Kept.cell kwy4 b2; have b3y4 := Kept.cell kwy4 b3; (try have m1y4 : u2.heap.size < y4.heap.size := (by omega)); (try have m2y4 : y2.heap.size < y4.heap.size := (by omega)); (try have m3y4 : y3.heap.size < y4.heap.size := (by omega)); (try have ys00 : (y4.cell? ⟨u2.heap.size, 0, none⟩).isSome = true := (by first | (simp [go_sem, *]; done) | fail)); (try have yf00 : y4.frozen? ⟨u2.heap.size, 0, none⟩ = false := (by first | (simp [go_sem, *]; done) | fail)); (try have ys01 : (y4.cell? ⟨u2.heap.size, 1, none⟩).isSome = true := (by first | (simp [go_sem, *]; done) | fail)); (try have yf01 : y4.frozen? ⟨u2.heap.size, 1, none⟩ = false := (by first | (simp [go_sem, *]; done) | fail)); (try have ys02 : (y4.cell? ⟨u2.heap.size, 2, none⟩).isSome = true := (by first | (simp [go_sem, *]; done) | fail)); (try have yf02 : y4.frozen? ⟨u2.heap.size, 2, none⟩ = false := (by first | (simp [go_sem, *]; done) | fail)); (try have ys10 : (y4.cell? ⟨y2.heap.size, 0, none⟩).isSome = true := (by first | (simp [go_sem, *]; done) | fail)); (try have yf10 : y4.frozen? ⟨y2.heap.size, 0, none⟩ = false := (by first | (simp [go_sem, *]; done) | fail)); (try have ys11 : (y4.cell? ⟨y2.heap.size, 1, none⟩).isSome = true := (by first | (simp [go_sem, *]; done) | fail)); (try have yf11 : y4.frozen? ⟨y2.heap.size, 1, none⟩ = false := (by first | (simp [go_sem, *]; done) | fail)); (try have ys12 : (y4.cell? ⟨y2.heap.size, 2, none⟩).isSome = true := (by first | (simp [go_sem, *]; done) | fail)); (try have yf12 : y4.frozen? ⟨y2.heap.size, 2, none⟩ = false := (by first | (simp [go_sem, *]; done) | fail)); (try have ys20 : (y4.cell? ⟨y3.heap.size, 0, none⟩).isSome = true := (by first | (simp [go_sem, *]; done) | fail)); (try have yf20 : y4.frozen? ⟨y3.heap.size, 0, none⟩ = false := (by first | (simp [go_sem, *]; done) | fail)); (try have ys21 : (y4.cell? ⟨y3.heap.size, 1, none⟩).isSome = true := (by first | (simp [go_sem, *]; done) | fail)); (try have yf21 : y4.frozen? ⟨y3.heap.size, 1, none⟩ = false := (by first | (simp [go_sem, *]; done) | fail)); (try have ys22 : (y4.cell? ⟨y3.heap.size, 2, none⟩).isSome = true := (by first | (simp [go_sem, *]; done) | fail)); (try have yf22 : y4.frozen? ⟨y3.heap.size, 2, none⟩ = false := (by first | (simp [go_sem, *]; done) | fail))))
    · repeat (first | go_values | go_skip | go_guarded | go_step | go_upon)
      go_meet
      case rel =>
        refine ⟨_, ao4, cap4, rfl, rfl, ⟨by simp [go_sem, *], by simp [go_sem, *], by simp [go_sem, *], by simp; try omega⟩, by omega, by (repeat (first | with_reducible exact kwy4 | with_reducible apply But.drewN | with_reducible apply But.drew | with_reducible apply But.alloc | (with_reducible refine But.setNew ?_ (by simp; try omega) _))), lo4, y4.heap.size, by omega, by omega, by simp, ?_⟩
        exact SheetO.kept oA ((But.refl _ _ _).alloc _)
    · repeat (first | go_values | go_skip | go_guarded | go_step | go_upon)
      go_meet
      case rel =>
        refine ⟨_, ao4, cap4, rfl, rfl, ⟨by simp [go_sem, *], by simp [go_sem, *], by simp [go_sem, *], by simp; try omega⟩, by omega, by (repeat (first | with_reducible exact kwy4 | with_reducible apply But.drewN | with_reducible apply But.drew | with_reducible apply But.alloc | (with_reducible refine But.setNew ?_ (by simp; try omega) _))), lo4, y4.heap.size, by omega, by omega, by simp, ?_⟩
        exact SheetO.but (lo' := y3.heap.size) (hi' := y3.heap.size + 1) oA ((((But.refl _ _ _).setCell (by simp) (by simp) _).setCell (by simp) (by simp) _).setCell (by simp) (by simp) _) (by omega)
    · repeat (first | go_values | go_skip | go_guarded | go_step | go_upon)
      go_meet
      case rel =>
        refine ⟨_, ao4, cap4, rfl, rfl, ⟨by simp [go_sem, *], by simp [go_sem, *], by simp [go_sem, *], by simp; try omega⟩, by omega, by (repeat (first | with_reducible exact kwy4 | with_reducible apply But.drewN | with_reducible apply But.drew | with_reducible apply But.alloc | (with_reducible refine But.setNew ?_ (by simp; try omega) _))), lo4, y4.heap.size, by omega, by omega, by simp, ?_⟩
        exact SheetO.but (lo' := y2.heap.size) (hi' := y2.heap.size + 1) oA ((((But.refl _ _ _).setCell (by simp) (by simp) _).setCell (by simp) (by simp) _).setCell (by simp) (by simp) _) (by omega)
    · repeat (first | go_values | go_skip | go_guarded | go_step | go_upon)
      go_meet
      case rel =>
        refine ⟨_, ao4, cap4, rfl, rfl, ⟨by simp [go_sem, *], by simp [go_sem, *], by simp [go_sem, *], by simp; try omega⟩, by omega, by (repeat (first | with_reducible exact kwy4 | with_reducible apply But.drewN | with_reducible apply But.drew | with_reducible apply But.alloc | (with_reducible refine But.setNew ?_ (by simp; try omega) _))), lo4, y4.heap.size, by omega, by omega, by simp, ?_⟩
        exact SheetO.but (lo' := u2.heap.size) (hi' := u2.heap.size + 1) oA ((((But.refl _ _ _).setCell (by simp) (by simp) _).setCell (by simp) (by simp) _).setCell (by simp) (by simp) _) (by omega)
  case rest =>
    obtain ⟨gw, ao4, cap4, rfl, rfl, Lw, hgw, k4, lo3, hi3, hlo3, hg3, hhi3, ow⟩ := hcut
    have K4 := K2.trans k4
    have La := La.kept k4
    have Lb := Lb.kept k4
    have hw2 : w.heap.size + 1 < u2.heap.size := bl
    have s4 := k4.size
    have hgl := Lw.2.2.2
    clear a0 a1 a2 al b0 b1 b2 b3 bl K2 k4
    have a0 := La.cell 0 rfl
    have a1 := La.cell 1 rfl
    have a2 := La.cell 2 rfl
    have al := La.lt
    repeat (first | go_values | go_skip | go_guarded | go_step | go_upon)
    go_at_call 24
    refine (toSheet c _ _ (hv.kept K4) hn).mono ?_
    rintro e u5 ⟨v5, rfl, ox, k5⟩
    have K5 := K4.trans k5
    have La := La.kept k5
    have Lb := Lb.kept k5
    have Lw := Lw.kept k5
    have ow := ow.kept k5
    have s5 := k5.size
    clear a0 a1 a2 al
    clear K4 k5
    obtain ⟨ao5, cap5, hfm⟩ := ox.form
    subst hfm
    dsimp only
    obtain ⟨u6, hu6⟩ : ∃ W, W = u5.alloc (.cells #[.int .i64 c.1, .int .i64 c.2.1, .slice ao5 c.2.2.length cap5] 49) := ⟨_, rfl⟩
    have j6 : Kept u5 u6 := by rw [hu6]; exact (But.refl _ _ u5).alloc _
    have Lx : Loc u6 u5.heap.size [.int .i64 c.1, .int .i64 c.2.1, .slice ao5 c.2.2.length cap5] := by rw [hu6]; exact Loc.new u5 _ 49
    have K6 := K5.trans j6
    have La := La.kept j6
    have Lb := Lb.kept j6
    have Lw := Lw.kept j6
    have ow := ow.kept j6
    have ox := ox.kept j6
    have s6 := j6.size
    have hw6 := Lx.lt
    clear j6 K5
    have b0 := Lb.cell 0 rfl
    have b1 := Lb.cell 1 rfl
    have b2 := Lb.cell 2 rfl
    have b3 := Lb.cell 3 rfl
    have bl := Lb.lt
    have a0 := Lx.cell 0 rfl
    have a1 := Lx.cell 1 rfl
    have a2 := Lx.cell 2 rfl
    have al := Lx.lt
    go_upto_region 7 with fail
    (try rw [← hu6])
    clear hu6
    go_cut [11, 12] from 34 to 41 (fun v6 v7 wx => ∃ gw aoA capA, v6 = .pointer (some ⟨gw, 0, none⟩) ∧ v7 = .bool jb ∧ LocR wx gw (.int .i64 R.1) (.int .i64 R.2.1) (.slice aoA R.2.2.length capA) ∧ u6.heap.size ≤ gw ∧ Kept u6 wx ∧ ∃ lo hi, u6.heap.size ≤ lo ∧ (gw < lo ∨ hi ≤ gw) ∧ hi ≤ wx.heap.size ∧ SheetO wx lo hi (.agg #[.int .i64 R.1, .int .i64 R.2.1, .slice aoA R.2.2.length capA]) R)
    case first =>
      go_region_held3 (fun w' => w'.cell? ⟨u5.heap.size, 0, none⟩ = some (.int .i64 c.1) ∧ w'.cell? ⟨u5.heap.size, 1, none⟩ = some (.int .i64 c.2.1) ∧ w'.cell? ⟨u5.heap.size, 2, none⟩ = some (.slice ao5 c.2.2.length cap5) ∧ w'.cell? ⟨w.heap.size + 1, 0, none⟩ = some (.int .i64 x) ∧ w'.cell? ⟨w.heap.size + 1, 1, none⟩ = some (.int .i64 y) ∧ w'.cell? ⟨w.heap.size + 1, 2, none⟩ = some (.int .i64 a) ∧ w'.cell? ⟨w.heap.size + 1, 3, none⟩ = some (.int .i64 b)) (simp [go_sem, *])
        (first | (go_at_call 15; refine (toPlaced _ _ _ _ _).mono ?_; rintro e y3 ⟨rfl, k3⟩; have hcy3 := k3.cell_eq; have hfy3 := k3.frozen_eq; have hzy3 := k3.size; (try simp at hzy3); have n0y3 : u5.heap.size < y3.heap.size := (by omega); have n1y3 : w.heap.size + 1 < y3.heap.size := (by omega); have kwy3 : Kept u6 y3 := (But.trans (by (repeat (first | with_reducible exact But.refl _ _ _ | with_reducible apply But.drewN | with_reducible apply But.drew | with_reducible apply But.alloc | (with_reducible refine But.setNew ?_ (by simp; try omega) _)))) k3); have a0y3 := Kept.cell kwy3 a0; have a1y3 := Kept.cell kwy3 a1; have a2y3 := Kept.cell kwy3 a2; have b0y3 := Kept.cell kwy3 b0; have b1y3 := Kept.cell kwy3 b1; have b2y3 := Kept.cell kwy3 b2; have b3y3 := Kept.cell kwy3 b3; (try have m1y3 : u6.heap.size < y3.heap.size := (by omega)))
                 | (go_at_call 28; refine (HI.out _ _ (SheetAt.kept ox.at (But.trans kwy3 (by (repeat (first | with_reducible exact But.refl _ _ _ | with_reducible apply But.drewN | with_reducible apply But.drew | with_reducible apply But.alloc | (with_reducible refine But.setNew ?_ (by simp; try omega) _))))))).mono ?_; rintro e y4 ⟨v4, rfl, oA, k4⟩; obtain ⟨ao4, cap4, hfm⟩ := oA.form; subst hfm; obtain ⟨lo4, hlo4, oA⟩ : ∃ lo, lo = _ ∧ SheetO y4 lo y4.heap.size _ R := ⟨_, rfl, oA⟩; (try simp at hlo4); have hcy4 := k4.cell_eq; have hfy4 := k4.frozen_eq; have hzy4 := k4.size; (try simp at hzy4); have n0y4 : u5.heap.size < y4.heap.size := (by omega); have n1y4 : w.heap.size + 1 < y4.heap.size := (by omega); have kwy4 : Kept u6 y4 := (But.trans (by (repeat (first | with_reducible exact kwy3 | with_reducible apply But.drewN | with_reducible apply But.drew | with_reducible apply But.alloc | (with_reducible refine But.setNew ?_ (by simp; try omega) _)))) k4); have a0y4 := Kept.cell kwy4 a0; have a1y4 := Kept.cell kwy4 a1; have a2y4 := Kept.cell kwy4 a2; have b0y4 := Kept.cell kwy4 b0; have b1y4 := Kept.cell kwy4 b1; have b2y4 := Kept.cell kwy4 b2; have b3y4 := Kept.cell kwy4 b3; (try have m1y4 : u6.heap.size < y4.heap.size := (by omega)); (try have m2y4 : y3.heap.size < y4.heap.size := (by omega)); (try have ys00 : (y4.cell? ⟨u6.heap.size, 0, none⟩).isSome = true := (by first | (simp [go_sem, *]; done) | fail)); (try have yf00 : y4.frozen? ⟨u6.heap.size, 0, none⟩ = false := (by first | (simp [go_sem, *]; done) | fail)); (try have ys01 : (y4.cell? ⟨u6.heap.size, 1, none⟩).isSome = true := (by first | (simp [go_sem, *]; done) | fail)); (try have yf01 : y4.frozen? ⟨u6.heap.size, 1, none⟩ = false := (by first | (simp [go_sem, *]; done) | fail)); (try have ys02 : (y4.cell? ⟨u6.heap.size, 2, none⟩).isSome = true := (by first | (simp [go_sem, *]; done) | fail)); (try have yf02 : y4.frozen? ⟨u6.heap.size, 2, none⟩ = false := (by first | (simp [go_sem, *]; done) | fail)); (try have ys10 : (y4.cell? ⟨y3.heap.size, 0, none⟩).isSome = true := (by first | (simp [go_sem, *]; done) | fail)); (try have yf10 : y4.frozen? ⟨y3.heap.size, 0, none⟩ = false := (by first | (simp [go_sem, *]; done) | fail)); (try have ys11 : (y4.cell? ⟨y3.heap.size, 1, none⟩).isSome = true := (by first | (simp [go_sem, *]; done) | fail)); (try have yf11 : y4.frozen? ⟨y3.heap.size, 1, none⟩ = false := (by first | (simp [go_sem, *]; done) | fail)); (try have ys12 : (y4.cell? ⟨y3.heap.size, 2, none⟩).isSome = true := (by first | (simp [go_sem, *]; done) | fail)); (try have yf12 : y4.frozen? ⟨y3.heap.size, 2, none⟩ = false := (by first | (simp [go_sem, *]; done) | fail))))
      · repeat (first | go_values | go_skip | go_guarded | go_step | go_upon)
        go_meet
        case rel =>
          refine ⟨_, ao4, cap4, rfl, rfl, ⟨by simp [go_sem, *], by simp [go_sem, *], by simp [go_sem, *], by simp; try omega⟩, by omega, by (repeat (first | with_reducible exact kwy4 | with_reducible apply But.drewN | with_reducible apply But.drew | with_reducible apply But.alloc | (with_reducible refine But.setNew ?_ (by simp; try omega) _))), lo4, y4.heap.size, by omega, by omega, by simp, ?_⟩
          exact SheetO.kept oA ((But.refl _ _ _).alloc _)
      · repeat (first | go_values | go_skip | go_guarded | go_step | go_upon)
        go_meet
        case rel =>
          refine ⟨_, ao4, cap4, rfl, rfl, ⟨by simp [go_sem, *], by simp [go_sem, *], by simp [go_sem, *], by simp; try omega⟩, by omega, by (repeat (first | with_reducible exact kwy4 | with_reducible apply But.drewN | with_reducible apply But.drew | with_reducible apply But.alloc | (with_reducible refine But.setNew ?_ (by simp; try omega) _))), lo4, y4.heap.size, by omega, by omega, by simp, ?_⟩
          exact SheetO.but (lo' := y3.heap.size) (hi' := y3.heap.size + 1) oA ((((But.refl _ _ _).setCell (by simp) (by simp) _).setCell (by simp) (by simp) _).setCell (by simp) (by simp) _) (by omega)
      · repeat (first | go_values | go_skip | go_guarded | go_step | go_upon)
        go_meet
        case rel =>
          refine ⟨_, ao4, cap4, rfl, rfl, ⟨by simp [go_sem, *], by simp [go_sem, *], by simp [go_sem, *], by simp; try omega⟩, by omega, by (repeat (first | with_reducible exact kwy4 | with_reducible apply But.drewN | with_reducible apply But.drew | with_reducible apply But.alloc | (with_reducible refine But.setNew ?_ (by simp; try omega) _))), lo4, y4.heap.size, by omega, by omega, by simp, ?_⟩
          exact SheetO.but (lo' := u6.heap.size) (hi' := u6.heap.size + 1) oA ((((But.refl _ _ _).setCell (by simp) (by simp) _).setCell (by simp) (by simp) _).setCell (by simp) (by simp) _) (by omega)
    case rest =>
      obtain ⟨gg, ao9, cap9, rfl, rfl, Lg, hgg, k9, lo9, hi9, hlo9, hg9, hhi9, og⟩ := hcut
      have K9 := K6.trans k9
      have La := La.kept k9
      have Lb := Lb.kept k9
      have Lw := Lw.kept k9
      have ow := ow.kept k9
      have Lx := Lx.kept k9
      have ox := ox.kept k9
      have s9 := k9.size
      have hggl := Lg.2.2.2
      clear a0 a1 a2 al b0 b1 b2 b3 bl K6 k9
      have x0 := Lw.1
      have x1 := Lw.2.1
      have x2 := Lw.2.2.1
      have xl := Lw.2.2.2
      have g0 := Lg.1
      have g1 := Lg.2.1
      have g2 := Lg.2.2.1
      have gl := Lg.2.2.2
      repeat (first | go_values | go_skip | go_guarded | go_step | go_upon)
      go_at_call 26
      refine (eqSheet R _ _ _ og.at ow.at (by omega)).mono ?_
      rintro e u10 ⟨rfl, k10⟩
      have K10 := K9.trans k10
      have La := La.kept k10
      have Lb := Lb.kept k10
      have Lw := Lw.kept k10
      have ow := ow.kept k10
      have Lx := Lx.kept k10
      have ox := ox.kept k10
      have Lg := Lg.kept k10
      have og := og.kept k10
      have s10 := k10.size
      clear x0 x1 x2 xl
      clear g0 g1 g2 gl
      clear k10 K9
      have a0 := La.cell 0 rfl
      have a1 := La.cell 1 rfl
      have a2 := La.cell 2 rfl
      have al := La.lt
      have b0 := Lx.cell 0 rfl
      have b1 := Lx.cell 1 rfl
      have b2 := Lx.cell 2 rfl
      have bl := Lx.lt
      dsimp only
      repeat (first | go_values | go_skip | go_guarded | go_step | go_upon)
      go_region_held3 (fun w' => w'.cell? ⟨w.heap.size, 0, none⟩ = some (.int .i64 c.1) ∧ w'.cell? ⟨w.heap.size, 1, none⟩ = some (.int .i64 c.2.1) ∧ w'.cell? ⟨w.heap.size, 2, none⟩ = some (.slice ao c.2.2.length cap) ∧ w'.cell? ⟨u5.heap.size, 0, none⟩ = some (.int .i64 c.1) ∧ w'.cell? ⟨u5.heap.size, 1, none⟩ = some (.int .i64 c.2.1) ∧ w'.cell? ⟨u5.heap.size, 2, none⟩ = some (.slice ao5 c.2.2.length cap5)) (simp [go_sem, *])
        (first | (go_at_call 24; refine (toSheet c _ _ (hv.kept (But.trans K10 (by (repeat (first | with_reducible exact But.refl _ _ _ | with_reducible apply But.drewN | with_reducible apply But.drew | with_reducible apply But.alloc | (with_reducible refine But.setNew ?_ (by simp; try omega) _)))))) hn).mono ?_; rintro e z7 ⟨v7, rfl, o7, k7⟩; obtain ⟨ao7, cap7, hfm⟩ := o7.form; subst hfm; have o7 := o7.at; have hc7 := k7.cell_eq; have hz7 := k7.size; (try simp at hz7); have n07 : w.heap.size < z7.heap.size := (by omega); have n17 : u5.heap.size < z7.heap.size := (by omega); have j7 : Kept u10 z7 := (But.trans (by (repeat (first | with_reducible exact But.refl _ _ _ | with_reducible apply But.drewN | with_reducible apply But.drew | with_reducible apply But.alloc | (with_reducible refine But.setNew ?_ (by simp; try omega) _)))) k7); have a07 := Kept.cell j7 a0; have a17 := Kept.cell j7 a1; have a27 := Kept.cell j7 a2; have b07 := Kept.cell j7 b0; have b17 := Kept.cell j7 b1; have b27 := Kept.cell j7 b2)
               | (go_at_call 26; refine (eqSheet c _ _ _ (SheetAt.kept ox.at (j7.trans (by (repeat (first | with_reducible exact But.refl _ _ _ | with_reducible apply But.drewN | with_reducible apply But.drew | with_reducible apply But.alloc | (with_reducible refine But.setNew ?_ (by simp; try omega) _)))))) (SheetAt.kept o7 (by (repeat (first | with_reducible exact But.refl _ _ _ | with_reducible apply But.drewN | with_reducible apply But.drew | with_reducible apply But.alloc | (with_reducible refine But.setNew ?_ (by simp; try omega) _))))) (by omega)).mono ?_; rintro e z8 ⟨rfl, k8⟩; have hc8 := k8.cell_eq; have hz8 := k8.size; (try simp at hz8); have n08 : w.heap.size < z8.heap.size := (by omega); have n18 : u5.heap.size < z8.heap.size := (by omega); have j8 : Kept u10 z8 := (But.trans (j7.trans (by (repeat (first | with_reducible exact But.refl _ _ _ | with_reducible apply But.drewN | with_reducible apply But.drew | with_reducible apply But.alloc | (with_reducible refine But.setNew ?_ (by simp; try omega) _))))) k8); have a08 := Kept.cell j8 a0; have a18 := Kept.cell j8 a1; have a28 := Kept.cell j8 a2; have b08 := Kept.cell j8 b0; have b18 := Kept.cell j8 b1; have b28 := Kept.cell j8 b2))
      all_goals
        have K8 := K10.trans j8
        have La := La.kept j8
        have Lb := Lb.kept j8
        have Lw := Lw.kept j8
        have ow := ow.kept j8
        have Lx := Lx.kept j8
        have ox := ox.kept j8
        have Lg := Lg.kept j8
        have og := og.kept j8
        have s8 := j8.size
        clear K10 j8 j7 k7 k8 o7 hc7 hc8 hz7 hz8 n07 n17 n08 n18 a07 a08 a17 a18 a27 a28 b07 b08 b17 b18 b27 b28
        clear a0 a1 a2 al b0 b1 b2 bl
        have x0 := Lx.cell 0 rfl
        have x1 := Lx.cell 1 rfl
        have x2 := Lx.cell 2 rfl
        have xl := Lx.lt
        (try dsimp only)
        repeat (first | go_values | go_skip | go_guarded | go_step | go_upon)
        go_at_call 29
        refine (markSheet c _ 1 _ u5.heap.size _ ox (by omega)).mono ?_
        rintro e u20 ⟨rfl, -, k20⟩
        rw [HQ1.out]
        have K20 := K8.onto k20 (by omega)
        have La := La.but k20 (by omega)
        have Lb := Lb.but k20 (by omega)
        have Lw := Lw.but k20 (by omega)
        have Lg := Lg.but k20 (by omega)
        have ow := ow.but k20 (by omega)
        have og := og.but k20 (by omega)
        have s20 := k20.size
        clear x0 x1 x2 xl
        clear k20 K8 ox Lx
        have x0 := Lw.1
        have x1 := Lw.2.1
        have x2 := Lw.2.2.1
        have xl := Lw.2.2.2
        have g0 := Lg.1
        have g1 := Lg.2.1
        have g2 := Lg.2.2.1
        have gl := Lg.2.2.2
        dsimp only
        repeat (first | go_values | go_skip | go_guarded | go_step | go_upon)
        go_at_call 26
        refine (eqSheet R _ _ _ og.at ow.at (by omega)).mono ?_
        rintro e u22 ⟨rfl, k22⟩
        have K22 := K20.trans k22
        have La := La.kept k22
        have Lb := Lb.kept k22
        have Lw := Lw.kept k22
        have Lg := Lg.kept k22
        have ow := ow.kept k22
        have og := og.kept k22
        have s22 := k22.size
        clear x0 x1 x2 xl
        clear g0 g1 g2 gl
        clear k22 K20
        have g0 := Lg.1
        have g1 := Lg.2.1
        have g2 := Lg.2.2.1
        have gl := Lg.2.2.2
        dsimp only
        repeat (first | go_values | go_skip | go_guarded | go_step | go_upon)
        go_at_call 29
        refine (markSheet R _ 1 lo9 hi9 _ og (by omega)).mono ?_
        rintro e u23 ⟨rfl, o15, k23⟩
        rw [HQ3.out]
        have K23 := K22.onto k23 (by omega)
        have La := La.but k23 (by omega)
        have Lb := Lb.but k23 (by omega)
        have Lw := Lw.but k23 (by omega)
        have Lg := Lg.but k23 (by omega)
        have ow := ow.but k23 (by omega)
        have s23 := k23.size
        clear g0 g1 g2 gl
        clear k23 K22 og
        have g0 := Lg.1
        have g1 := Lg.2.1
        have g2 := Lg.2.2.1
        have gl := Lg.2.2.2
        dsimp only
        repeat (first | go_values | go_skip | go_guarded | go_step | go_upon)
        go_at_call 30
        refine (heldSheet R.1 R.2.1 R.2.2.length _ 1 _ o15.at (by omega)).mono ?_
        rintro e u24 ⟨rfl, k24⟩
        rw [HQ3.out]
        have K24 := K23.trans k24
        have La := La.kept k24
        have Lb := Lb.kept k24
        have Lw := Lw.kept k24
        have Lg := Lg.kept k24
        have ow := ow.kept k24
        have o15 := o15.kept k24
        have s24 := k24.size
        clear g0 g1 g2 gl
        clear k24 K23
        have a0 := La.cell 0 rfl
        have a1 := La.cell 1 rfl
        have a2 := La.cell 2 rfl
        have al := La.lt
        have b0 := Lb.cell 0 rfl
        have b1 := Lb.cell 1 rfl
        have b2 := Lb.cell 2 rfl
        have b3 := Lb.cell 3 rfl
        have bl := Lb.lt
        dsimp only
        repeat (first | go_values | go_skip | go_guarded | go_step | go_upon)
        go_cut [16, 17] from 83 to 91 (fun v6 v7 wx => ∃ gw aoA capA, v6 = .pointer (some ⟨gw, 0, none⟩) ∧ v7 = .bool jb ∧ LocR wx gw (.int .i64 R.1) (.int .i64 R.2.1) (.slice aoA R.2.2.length capA) ∧ u24.heap.size ≤ gw ∧ Kept u24 wx ∧ ∃ lo hi, u24.heap.size ≤ lo ∧ (gw < lo ∨ hi ≤ gw) ∧ hi ≤ wx.heap.size ∧ SheetO wx lo hi (.agg #[.int .i64 R.1, .int .i64 R.2.1, .slice aoA R.2.2.length capA]) R)
        case first =>
          go_region_held3 (fun w' => w'.cell? ⟨w.heap.size, 0, none⟩ = some (.int .i64 c.1) ∧ w'.cell? ⟨w.heap.size, 1, none⟩ = some (.int .i64 c.2.1) ∧ w'.cell? ⟨w.heap.size, 2, none⟩ = some (.slice ao c.2.2.length cap) ∧ w'.cell? ⟨w.heap.size + 1, 0, none⟩ = some (.int .i64 x) ∧ w'.cell? ⟨w.heap.size + 1, 1, none⟩ = some (.int .i64 y) ∧ w'.cell? ⟨w.heap.size + 1, 2, none⟩ = some (.int .i64 a) ∧ w'.cell? ⟨w.heap.size + 1, 3, none⟩ = some (.int .i64 b)) (simp [go_sem, *])
            (first | (go_at_call 24; refine (toSheet c _ _ (hv.kept (But.trans K24 (by (repeat (first | with_reducible exact But.refl _ _ _ | with_reducible apply But.drewN | with_reducible apply But.drew | with_reducible apply But.alloc | (with_reducible refine But.setNew ?_ (by simp; try omega) _)))))) hn).mono ?_; rintro e y2 ⟨v2, rfl, o2, k2⟩; obtain ⟨ao2, cap2, hfm⟩ := o2.form; subst hfm; have o2 := o2.at; have hcy2 := k2.cell_eq; have hfy2 := k2.frozen_eq; have hzy2 := k2.size; (try simp at hzy2); have n0y2 : w.heap.size < y2.heap.size := (by omega); have n1y2 : w.heap.size + 1 < y2.heap.size := (by omega); have kwy2 : Kept u24 y2 := (But.trans (by (repeat (first | with_reducible exact But.refl _ _ _ | with_reducible apply But.drewN | with_reducible apply But.drew | with_reducible apply But.alloc | (with_reducible refine But.setNew ?_ (by simp; try omega) _)))) k2); have a0y2 := Kept.cell kwy2 a0; have a1y2 := Kept.cell kwy2 a1; have a2y2 := Kept.cell kwy2 a2; have b0y2 := Kept.cell kwy2 b0; have b1y2 := Kept.cell kwy2 b1; have b2y2 := Kept.cell kwy2 b2; have b3y2 := Kept.cell kwy2 b3; (try have m1y2 : u24.heap.size < y2.heap.size := (by omega)))
                     | (go_at_call 15; refine (toPlaced _ _ _ _ _).mono ?_; rintro e y3 ⟨rfl, k3⟩; have o2 := SheetAt.kept o2 (But.trans (by (repeat (first | with_reducible exact But.refl _ _ _ | with_reducible apply But.drewN | with_reducible apply But.drew | with_reducible apply But.alloc | (with_reducible refine But.setNew ?_ (by simp; try omega) _)))) k3); have hcy3 := k3.cell_eq; have hfy3 := k3.frozen_eq; have hzy3 := k3.size; (try simp at hzy3); have n0y3 : w.heap.size < y3.heap.size := (by omega); have n1y3 : w.heap.size + 1 < y3.heap.size := (by omega); have kwy3 : Kept u24 y3 := (But.trans (by (repeat (first | with_reducible exact kwy2 | with_reducible apply But.drewN | with_reducible apply But.drew | with_reducible apply But.alloc | (with_reducible refine But.setNew ?_ (by simp; try omega) _)))) k3); have a0y3 := Kept.cell kwy3 a0; have a1y3 := Kept.cell kwy3 a1; have a2y3 := Kept.cell kwy3 a2; have b0y3 := Kept.cell kwy3 b0; have b1y3 := Kept.cell kwy3 b1; have b2y3 := Kept.cell kwy3 b2; have b3y3 := Kept.cell kwy3 b3; (try have m1y3 : u24.heap.size < y3.heap.size := (by omega)); (try have m2y3 : y2.heap.size < y3.heap.size := (by omega)))
                     | (go_at_call 28; refine (HI.out _ _ (SheetAt.kept o2 (by (repeat (first | with_reducible exact But.refl _ _ _ | with_reducible apply But.drewN | with_reducible apply But.drew | with_reducible apply But.alloc | (with_reducible refine But.setNew ?_ (by simp; try omega) _)))))).mono ?_; rintro e y4 ⟨v4, rfl, oA, k4⟩; obtain ⟨ao4, cap4, hfm⟩ := oA.form; subst hfm; obtain ⟨lo4, hlo4, oA⟩ : ∃ lo, lo = _ ∧ SheetO y4 lo y4.heap.size _ R := ⟨_, rfl, oA⟩; (try simp at hlo4); have hcy4 := k4.cell_eq; have hfy4 := k4.frozen_eq; have hzy4 := k4.size; (try simp at hzy4); have n0y4 : w.heap.size < y4.heap.size := (by omega); have n1y4 : w.heap.size + 1 < y4.heap.size := (by omega); have kwy4 : Kept u24 y4 := (But.trans (by (repeat (first | with_reducible exact kwy3 | with_reducible apply But.drewN | with_reducible apply But.drew | with_reducible apply But.alloc | (with_reducible refine But.setNew ?_ (by simp; try omega) _)))) k4); have a0y4 := Kept.cell kwy4 a0; have a1y4 := Kept.cell kwy4 a1; have a2y4 := Kept.cell kwy4 a2; have b0y4 := Kept.cell kwy4 b0; have b1y4 := Kept.cell kwy4 b1; have b2y4 := Kept.cell kwy4 b2; have b3y4 := Kept.cell kwy4 b3; (try have m1y4 : u24.heap.size < y4.heap.size := (by omega)); (try have m2y4 : y2.heap.size < y4.heap.size := (by omega)); (try have m3y4 : y3.heap.size < y4.heap.size := (by omega)); (try have ys00 : (y4.cell? ⟨u24.heap.size, 0, none⟩).isSome = true := (by first | (simp [go_sem, *]; done) | fail)); (try have yf00 : y4.frozen? ⟨u24.heap.size, 0, none⟩ = false := (by first | (simp [go_sem, *]; done) | fail)); (try have ys01 : (y4.cell? ⟨u24.heap.size, 1, none⟩).isSome = true := (by first | (simp [go_sem, *]; done) | fail)); (try have yf01 : y4.frozen? ⟨u24.heap.size, 1, none⟩ = false := (by first | (simp [go_sem, *]; done) | fail)); (try have ys02 : (y4.cell? ⟨u24.heap.size, 2, none⟩).isSome = true := (by first | (simp [go_sem, *]; done) | fail)); (try have yf02 : y4.frozen? ⟨u24.heap.size, 2, none⟩ = false := (by first | (simp [go_sem, *]; done) | fail)); (try have ys10 : (y4.cell? ⟨y2.heap.size, 0, none⟩).isSome = true := (by first | (simp [go_sem, *]; done) | fail)); (try have yf10 : y4.frozen? ⟨y2.heap.size, 0, none⟩ = false := (by first | (simp [go_sem, *]; done) | fail)); (try have ys11 : (y4.cell? ⟨y2.heap.size, 1, none⟩).isSome = true := (by first | (simp [go_sem, *]; done) | fail)); (try have yf11 : y4.frozen? ⟨y2.heap.size, 1, none⟩ = false := (by first | (simp [go_sem, *]; done) | fail)); (try have ys12 : (y4.cell? ⟨y2.heap.size, 2, none⟩).isSome = true := (by first | (simp [go_sem, *]; done) | fail)); (try have yf12 : y4.frozen? ⟨y2.heap.size, 2, none⟩ = false := (by first | (simp [go_sem, *]; done) | fail)); (try have ys20 : (y4.cell? ⟨y3.heap.size, 0, none⟩).isSome = true := (by first | (simp [go_sem, *]; done) | fail)); (try have yf20 : y4.frozen? ⟨y3.heap.size, 0, none⟩ = false := (by first | (simp [go_sem, *]; done) | fail)); (try have ys21 : (y4.cell? ⟨y3.heap.size, 1, none⟩).isSome = true := (by first | (simp [go_sem, *]; done) | fail)); (try have yf21 : y4.frozen? ⟨y3.heap.size, 1, none⟩ = false := (by first | (simp [go_sem, *]; done) | fail)); (try have ys22 : (y4.cell? ⟨y3.heap.size, 2, none⟩).isSome = true := (by first | (simp [go_sem, *]; done) | fail)); (try have yf22 : y4.frozen? ⟨y3.heap.size, 2, none⟩ = false := (by first | (simp [go_sem, *]; done) | fail))))
          · repeat (first | go_values | go_skip | go_guarded | go_step | go_upon)
            go_meet
            case rel =>
              refine ⟨_, ao4, cap4, rfl, rfl, ⟨by simp [go_sem, *], by simp [go_sem, *], by simp [go_sem, *], by simp; try omega⟩, by omega, by (repeat (first | with_reducible exact kwy4 | with_reducible apply But.drewN | with_reducible apply But.drew | with_reducible apply But.alloc | (with_reducible refine But.setNew ?_ (by simp; try omega) _))), lo4, y4.heap.size, by omega, by omega, by simp, ?_⟩
              exact SheetO.kept oA ((But.refl _ _ _).alloc _)
          · repeat (first | go_values | go_skip | go_guarded | go_step | go_upon)
            go_meet
            case rel =>
              refine ⟨_, ao4, cap4, rfl, rfl, ⟨by simp [go_sem, *], by simp [go_sem, *], by simp [go_sem, *], by simp; try omega⟩, by omega, by (repeat (first | with_reducible exact kwy4 | with_reducible apply But.drewN | with_reducible apply But.drew | with_reducible apply But.alloc | (with_reducible refine But.setNew ?_ (by simp; try omega) _))), lo4, y4.heap.size, by omega, by omega, by simp, ?_⟩
              exact SheetO.but (lo' := y3.heap.size) (hi' := y3.heap.size + 1) oA ((((But.refl _ _ _).setCell (by simp) (by simp) _).setCell (by simp) (by simp) _).setCell (by simp) (by simp) _) (by omega)
          · repeat (first | go_values | go_skip | go_guarded | go_step | go_upon)
            go_meet
            case rel =>
              refine ⟨_, ao4, cap4, rfl, rfl, ⟨by simp [go_sem, *], by simp [go_sem, *], by simp [go_sem, *], by simp; try omega⟩, by omega, by (repeat (first | with_reducible exact kwy4 | with_reducible apply But.drewN | with_reducible apply But.drew | with_reducible apply But.alloc | (with_reducible refine But.setNew ?_ (by simp; try omega) _))), lo4, y4.heap.size, by omega, by omega, by simp, ?_⟩
              exact SheetO.but (lo' := y2.heap.size) (hi' := y2.heap.size + 1) oA ((((But.refl _ _ _).setCell (by simp) (by simp) _).setCell (by simp) (by simp) _).setCell (by simp) (by simp) _) (by omega)
          · repeat (first | go_values | go_skip | go_guarded | go_step | go_upon)
            go_meet
            case rel =>
              refine ⟨_, ao4, cap4, rfl, rfl, ⟨by simp [go_sem, *], by simp [go_sem, *], by simp [go_sem, *], by simp; try omega⟩, by omega, by (repeat (first | with_reducible exact kwy4 | with_reducible apply But.drewN | with_reducible apply But.drew | with_reducible apply But.alloc | (with_reducible refine But.setNew ?_ (by simp; try omega) _))), lo4, y4.heap.size, by omega, by omega, by simp, ?_⟩
              exact SheetO.but (lo' := u24.heap.size) (hi' := u24.heap.size + 1) oA ((((But.refl _ _ _).setCell (by simp) (by simp) _).setCell (by simp) (by simp) _).setCell (by simp) (by simp) _) (by omega)
        case rest =>
          obtain ⟨gh, aoh, caph, rfl, rfl, Lh, hgh, kh, loh, hih, hloh, hgh3, hhih, oh⟩ := hcut
          have K25 := K24.trans kh
          have ow := ow.kept kh
          have Lw := Lw.kept kh
          have Lg := Lg.kept kh
          have o15 := o15.kept kh
          clear a0 a1 a2 al b0 b1 b2 b3 bl K24 kh La Lb
          have x0 := Lw.1
          have x1 := Lw.2.1
          have x2 := Lw.2.2.1
          have xl := Lw.2.2.2
          have h0 := Lh.1
          have h1 := Lh.2.1
          have h2 := Lh.2.2.1
          have hl0 := Lh.2.2.2
          repeat (first | go_values | go_skip | go_guarded | go_step | go_upon)
          go_at_call 26
          refine (eqSheet R _ _ _ oh.at ow.at (by omega)).mono ?_
          rintro e u26 ⟨rfl, k26⟩
          have K26 := K25.trans k26
          have o15 := o15.kept k26
          have Lg := Lg.kept k26
          clear x0 x1 x2 xl
          clear k26 K25 h0 h1 h2
          have g0 := Lg.1
          have g1 := Lg.2.1
          have g2 := Lg.2.2.1
          have gl := Lg.2.2.2
          dsimp only
          repeat (first | go_values | go_skip | go_guarded | go_step | go_upon)
          go_at_call 30
          refine (heldSheet R.1 R.2.1 R.2.2.length _ 1 _ o15.at (by omega)).mono ?_
          rintro e u27 ⟨rfl, k27⟩
          rw [HQ3.out]
          have K27 := K26.trans k27
          dsimp only
          repeat (first | go_values | go_skip | go_guarded | go_step | go_upon)
          go_ret
          exact ⟨rfl, K27⟩

set_option maxRecDepth 100000 in
set_option maxHeartbeats 1000000 in
theorem big (c : SheetD) (x y a b col : Int) (v : Value) (w : World) (hv : SheetAt w v c) (hn : c.2.2.length ≤ 9223372036854775807) (hl : 1048576 < c.2.2.length) :
    Calls Try.prog 6 #[v, .agg #[.int .i64 x, .int .i64 y, .int .i64 a, .int .i64 b], .int .i64 col] w fun e w' => e = .returned (.bool true) ∧ Kept w w' := by
  obtain ⟨ao, cap, hfm⟩ := hv.form
  subst hfm
  go_enter Try.func6, Try.ntmps6
  repeat (first | go_values | go_skip | go_guarded | go_step | go_upon)
  go_at_call 22
  refine (szSheet c _ _ _ (hv.kept (((But.refl _ _ w).alloc _).alloc _)) (by omega) (by omega) hn).mono ?_
  rintro e u1 ⟨rfl, k1⟩
  rw [leftOf_no (by omega)]
  dsimp only
  repeat (first | go_values | go_skip | go_guarded | go_step | go_upon)
  go_ret
  exact ⟨rfl, (((But.refl _ _ w).alloc _).alloc _).trans k1⟩
theorem all (c : SheetD) (v : Value) {w : World} (hv : SheetAt w v c) (hm : c.2.2.length ≤ maxLen) (p : PlacedD) (col : Int) (w' : World) (_ : w' = w) :
    Calls Try.prog 6 #[v, .agg (placedC p).toArray, .int .i64 col] w fun e w' => e = .returned (.bool true) ∧ Kept w w' := by
  have hm' : c.2.2.length ≤ 9223372036854775807 := by unfold maxLen at hm; omega
  obtain ⟨x, y, a, b⟩ := p
  by_cases hl : c.2.2.length ≤ 1048576
  · exact walk c (boxA c x y a b col).1 x y a b col (boxA c x y a b col).2 v w hv hl (by unfold boxA; split <;> simp [boxN_len]; omega) (fun u v h => sbox2 c x y a b col v u h hl) (fun u v h => ibox c x y a b col v u h hl)
  · exact big c x y a b col v w hv hm' (by omega)


set_option maxRecDepth 100000 in
theorem lifted (os : Os) (started : os.Started) (H : Type) (enc : TypeId × Value → H) :
    ReturnsInHanded {} Try.checked os 6 .any (Rows.fnExactPaintBoxSpec.pre6 enc Try.prog Try.f6 Rows.fnExactPaintBoxRow.domain false) (Rows.fnExactPaintBoxSpec.post enc Try.prog Try.f6 false true false false) := by
  refine returnsInHanded_of_change (C := Try.checked) own started (by kernel_rfl) Try.func6
    (ChangeSpec.witness6 (enc := enc) (C := Try.checked) false ⟨#[], #[.agg #[.int .i64 0, .int .i64 0, .slice none 0 0], .agg #[.int .i64 0, .int .i64 0, .int .i64 0, .int .i64 0], .int .i64 0], []⟩ 8 (by kernel_rfl) (by kernel_rfl) (by kernel_rfl) (by kernel_rfl)) ?_
  intro W base args ds gs before hval0 hW hcnd _
  have hval : ∀ (j : Nat) t v, Try.f6.params[j]? = some t → args[j]? = some v → Value.okWide Try.prog W .any base t v := hval0
  have hW' := hW
  obtain ⟨p, q, hA0, hV, rfl, hfz, hnd⟩ := hW
  have hA : DataW.TrodAll enc Try.prog W 0 (fun _ => true) true Try.f6.params.toList args.toList ds p := hA0
  rw [Try.params6] at hA hval
  obtain ⟨v0, vs0, d0, ds0, p0, q0, hargs, rfl, rfl, h0, r0⟩ := trodAll_cons hA
  obtain ⟨v1, vs1, d1, ds1, p1, q1, rfl, rfl, rfl, h1, r1⟩ := trodAll_cons r0
  obtain ⟨v2, vs2, d2, ds2, p2, q2, rfl, rfl, rfl, h2, r2⟩ := trodAll_cons r1
  obtain ⟨rfl, rfl, rfl⟩ := trodAll_nil r2
  obtain rfl : args = #[v0, v1, v2] := by cases args; simp_all
  obtain ⟨rfl, rfl⟩ := trodVars_none hV
  obtain ⟨c0, hv0, hl0⟩ := open_sheet (hval 0 46 v0 rfl rfl) h0
  obtain ⟨a1, e1⟩ := open_placedV (hval 1 23 v1 rfl rfl) h1
  subst e1
  obtain ⟨a2, rfl, rfl, rfl, w2⟩ := open_int Try.underlying3 (hval 2 3 v2 rfl rfl) h2
  clear hA0 hval0
  simp only [List.append_nil] at hW'
  refine (all c0 v0 hv0 hl0 a1 a2 W rfl).mono fun e W' ⟨he, hg⟩ => ?_
  subst he
  exact ⟨_, rfl, post_of_kept (pa := _) (pv := []) hW' (fun _ _ _ => (trodAll_cons_mk (shut_bool Try.underlying4 _) trodAll_mk0)) (fun sp hsp => (trodAll_cons_mk (kept_trod (by kernel_rfl) (of_decide_eq_true (by kernel_rfl)) h0 hg (fun x hx => hW'.lt x (by simp [hx])) (fun x hx => hsp x (by simp [hx]))) (trodAll_cons_mk (kept_trod (by kernel_rfl) (of_decide_eq_true (by kernel_rfl)) h1 hg (fun x hx => hW'.lt x (by simp [hx])) (fun x hx => hsp x (by simp [hx]))) (trodAll_cons_mk (shut_int Try.underlying3 w2) trodAll_mk0)))) (fun _ _ => rfl) hg⟩

theorem over : Rows.fnExactPaintBoxRow.holds Try.pinned (OpenSpec.ofChange Rows.fnExactPaintBoxSpec) :=
  OpenClaim.holds_of_wide 6 Try.f6 rfl rfl rfl rfl rfl rfl rfl ⟨rfl, rfl, rfl, rfl, rfl⟩ rfl rfl rfl rfl rfl (by kernel_rfl) Try.func6 (by kernel_rfl)
    (of_decide_eq_true (by kernel_rfl)) (by unfold Func.isWrapper; first | (rw [if_pos (by decide +kernel)]; kernel_rfl) | (rw [if_neg (by decide +kernel)]; exact ⟨rfl, rfl⟩))
    (fun os started H enc _ => lifted os started H enc)

theorem proved : Rows.FnExactPaintBoxSaid :=
  over
#print axioms proved
end Go.Proofs.Ytoimpkhgdpkhkaa.fnExactPaintBox
