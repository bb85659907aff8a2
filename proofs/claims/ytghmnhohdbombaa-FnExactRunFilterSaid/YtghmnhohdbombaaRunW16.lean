/-
  The walk of the law of a filter run.
-/
import Derived.Test.YtghmnhohdbombaaSRun16
import Derived.Test.YtghmnhohdbombaaSplit16
import Derived.Test.YtghmnhohdbombaaQuiet
import Derived.Deep.CutBlock
import Derived.Deep.CutRange
import Derived.Deep.DeepCutAuto
import Derived.Deep.RegionHeld3
namespace Go.Proofs.Ytghmnhohdbombaa
open Go.ChangeShapes Go.WideShapes Go.ChangeAt Go.RowKit Ieee

theorem forgetC {P : Program} {c : Code} {Q : Exit → Act → World → Prop} {a : Act} {W : World} (F : World → Prop) (hF : F W) (h : ∀ W', F W' → Code.wp P c Q a W') : Code.wp P c Q a W := h W hF

/-- A variable of two cells, read alone. -/
def LocR2 (w : World) (b : Nat) (x0 x1 : Value) : Prop := w.cell? ⟨b, 0, none⟩ = some x0 ∧ w.cell? ⟨b, 1, none⟩ = some x1 ∧ b < w.heap.size
theorem LocR2.but {w w' : World} {b lo hi : Nat} {x0 x1 : Value} (h : LocR2 w b x0 x1) (k : But lo hi w w') (ho : b < lo ∨ hi ≤ b) : LocR2 w' b x0 x1 := ⟨But.cell k h.1 ho, But.cell k h.2.1 ho, Nat.lt_of_lt_of_le h.2.2 k.size⟩
theorem LocR2.kept {w w' : World} {b : Nat} {x0 x1 : Value} (h : LocR2 w b x0 x1) (k : Kept w w') : LocR2 w' b x0 x1 := h.but k (by omega)

set_option maxRecDepth 100000 in
set_option maxHeartbeats 16000000 in
theorem walk (f0 f1 f2 f3 f4 s1 s2 r1 r2 : Nat) (l R : List Nat) (jb : Bool) (v : Value) (w : World) (hv : FltAt w v l) (hl : l.length ≤ 1048576) (hR : R.length ≤ 1048576)
    (hS : ∀ (u : World) (v : Value), FltAt u v l → Calls Try.prog 12 #[.agg #[.float .f64 f0, .float .f64 f1, .float .f64 f2, .float .f64 f3, .float .f64 f4], .agg #[.float .f64 s1, .float .f64 s2], v] u fun e u' => ∃ v', e = .returned (.tuple #[v', .agg #[.float .f64 r1, .float .f64 r2], .bool jb]) ∧ FltO u' u.heap.size u'.heap.size v' R ∧ Kept u u')
    (hI : ∀ (u : World) (v : Value), FltAt u v l → Calls Try.prog 11 #[.agg #[.float .f64 f0, .float .f64 f1, .float .f64 f2, .float .f64 f3, .float .f64 f4], .agg #[.float .f64 s1, .float .f64 s2], v] u fun e u' => ∃ v', e = .returned (.tuple #[v', .agg #[.float .f64 r1, .float .f64 r2], .bool jb]) ∧ FltO u' u.heap.size u'.heap.size v' R ∧ Kept u u') :
    Calls Try.prog 5 #[.agg #[.float .f64 f0, .float .f64 f1, .float .f64 f2, .float .f64 f3, .float .f64 f4], .agg #[.float .f64 s1, .float .f64 s2], v] w fun e w' => e = .returned (.bool true) ∧ Kept w w' := by
  have HS : Hid (∀ (u : World) (v : Value), FltAt u v l → Calls Try.prog 12 #[.agg #[.float .f64 f0, .float .f64 f1, .float .f64 f2, .float .f64 f3, .float .f64 f4], .agg #[.float .f64 s1, .float .f64 s2], v] u fun e u' => ∃ v', e = .returned (.tuple #[v', .agg #[.float .f64 r1, .float .f64 r2], .bool jb]) ∧ FltO u' u.heap.size u'.heap.size v' R ∧ Kept u u') := hS
  have HI : Hid (∀ (u : World) (v : Value), FltAt u v l → Calls Try.prog 11 #[.agg #[.float .f64 f0, .float .f64 f1, .float .f64 f2, .float .f64 f3, .float .f64 f4], .agg #[.float .f64 s1, .float .f64 s2], v] u fun e u' => ∃ v', e = .returned (.tuple #[v', .agg #[.float .f64 r1, .float .f64 r2], .bool jb]) ∧ FltO u' u.heap.size u'.heap.size v' R ∧ Kept u u') := hI
  clear hS hI
  have hd0 : decide ((1048576 : Int) < (l.length : Int)) = false := by simp; omega
  obtain ⟨ao, cap, hfm⟩ := row_nil hv
  subst hfm
  go_enter Try.func5, Try.ntmps5
  repeat (first | go_values | go_skip | go_guarded | go_step | go_upon)
  refine forgetC (fun u => Kept w u ∧ Loc u w.heap.size [.float .f64 f0, .float .f64 f1, .float .f64 f2, .float .f64 f3, .float .f64 f4] ∧ Loc u (w.heap.size + 1) [.float .f64 s1, .float .f64 s2]) ⟨by (repeat (first | with_reducible exact But.refl _ _ _ | with_reducible apply But.drewN | with_reducible apply But.drew | with_reducible apply But.alloc | (with_reducible refine But.setNew ?_ (by simp; try omega) _))), (Loc.new w [.float .f64 f0, .float .f64 f1, .float .f64 f2, .float .f64 f3, .float .f64 f4] 34).alloc _, by
    have := Loc.new (w.alloc (.cells #[.float .f64 f0, .float .f64 f1, .float .f64 f2, .float .f64 f3, .float .f64 f4] 34)) [.float .f64 s1, .float .f64 s2] 38
    simpa using this⟩ ?_
  rintro u2 ⟨K2, La, Lb⟩
  clear hd0
  have a0 := La.cell 0 rfl
  have a1 := La.cell 1 rfl
  have a2 := La.cell 2 rfl
  have a3 := La.cell 3 rfl
  have a4 := La.cell 4 rfl
  have a5 := Lb.cell 0 rfl
  have a6 := Lb.cell 1 rfl
  have al := La.lt
  have bl := Lb.lt
  go_cut [7, 8, 9] from 23 to 33 (fun v6 v7 v8 wx => ∃ gw aoA capA, v7 = .pointer (some ⟨gw, 0, none⟩) ∧ v6 = .slice aoA R.length capA ∧ v8 = .bool jb ∧ LocR2 wx gw (.float .f64 r1) (.float .f64 r2) ∧ u2.heap.size ≤ gw ∧ Kept u2 wx ∧ ∃ lo hi, u2.heap.size ≤ lo ∧ (gw < lo ∨ hi ≤ gw) ∧ hi ≤ wx.heap.size ∧ FltO wx lo hi (.slice aoA R.length capA) R)
  case first =>
    go_region_held3 (fun w' => w'.cell? ⟨w.heap.size, 0, none⟩ = some (.float .f64 f0) ∧ w'.cell? ⟨w.heap.size, 1, none⟩ = some (.float .f64 f1) ∧ w'.cell? ⟨w.heap.size, 2, none⟩ = some (.float .f64 f2) ∧ w'.cell? ⟨w.heap.size, 3, none⟩ = some (.float .f64 f3) ∧ w'.cell? ⟨w.heap.size, 4, none⟩ = some (.float .f64 f4) ∧ w'.cell? ⟨w.heap.size + 1, 0, none⟩ = some (.float .f64 s1) ∧ w'.cell? ⟨w.heap.size + 1, 1, none⟩ = some (.float .f64 s2)) (simp [go_sem, *])
      (first | (go_at_call 14; refine (toFilter f0 f1 f2 f3 f4 _).mono ?_; rintro e y1 ⟨rfl, k1⟩; have hcy1 := k1.cell_eq; have hfy1 := k1.frozen_eq; have hzy1 := k1.size; (try simp at hzy1); have n0y1 : w.heap.size < y1.heap.size := (by omega); have n1y1 : w.heap.size + 1 < y1.heap.size := (by omega); have kwy1 : Kept u2 y1 := (But.trans (by (repeat (first | with_reducible exact But.refl _ _ _ | with_reducible apply But.drewN | with_reducible apply But.drew | with_reducible apply But.alloc | (with_reducible refine But.setNew ?_ (by simp; try omega) _)))) k1); have a0y1 := Kept.cell kwy1 a0; have a1y1 := Kept.cell kwy1 a1; have a2y1 := Kept.cell kwy1 a2; have a3y1 := Kept.cell kwy1 a3; have a4y1 := Kept.cell kwy1 a4; have a5y1 := Kept.cell kwy1 a5; have a6y1 := Kept.cell kwy1 a6; (try have m1y1 : u2.heap.size < y1.heap.size := (by omega)))
               | (go_at_call 16; refine (toMemory s1 s2 _).mono ?_; rintro e y2 ⟨rfl, k2⟩; have hcy2 := k2.cell_eq; have hfy2 := k2.frozen_eq; have hzy2 := k2.size; (try simp at hzy2); have n0y2 : w.heap.size < y2.heap.size := (by omega); have n1y2 : w.heap.size + 1 < y2.heap.size := (by omega); have kwy2 : Kept u2 y2 := (But.trans (by (repeat (first | with_reducible exact kwy1 | with_reducible apply But.drewN | with_reducible apply But.drew | with_reducible apply But.alloc | (with_reducible refine But.setNew ?_ (by simp; try omega) _)))) k2); have a0y2 := Kept.cell kwy2 a0; have a1y2 := Kept.cell kwy2 a1; have a2y2 := Kept.cell kwy2 a2; have a3y2 := Kept.cell kwy2 a3; have a4y2 := Kept.cell kwy2 a4; have a5y2 := Kept.cell kwy2 a5; have a6y2 := Kept.cell kwy2 a6; (try have m1y2 : u2.heap.size < y2.heap.size := (by omega)); (try have m2y2 : y1.heap.size < y2.heap.size := (by omega)))
               | (go_at_call 17; refine (toFltS l _ _ (hv.kept (But.trans K2 (by (repeat (first | with_reducible exact kwy2 | with_reducible apply But.drewN | with_reducible apply But.drew | with_reducible apply But.alloc | (with_reducible refine But.setNew ?_ (by simp; try omega) _)))))) hl).mono ?_; rintro e y3 ⟨v3, rfl, o3, k3⟩; obtain ⟨ao3, cap3, hfm⟩ := o3.form; subst hfm; have o3 := o3.at; have hcy3 := k3.cell_eq; have hfy3 := k3.frozen_eq; have hzy3 := k3.size; (try simp at hzy3); have n0y3 : w.heap.size < y3.heap.size := (by omega); have n1y3 : w.heap.size + 1 < y3.heap.size := (by omega); have kwy3 : Kept u2 y3 := (But.trans (by (repeat (first | with_reducible exact kwy2 | with_reducible apply But.drewN | with_reducible apply But.drew | with_reducible apply But.alloc | (with_reducible refine But.setNew ?_ (by simp; try omega) _)))) k3); have a0y3 := Kept.cell kwy3 a0; have a1y3 := Kept.cell kwy3 a1; have a2y3 := Kept.cell kwy3 a2; have a3y3 := Kept.cell kwy3 a3; have a4y3 := Kept.cell kwy3 a4; have a5y3 := Kept.cell kwy3 a5; have a6y3 := Kept.cell kwy3 a6; (try have m1y3 : u2.heap.size < y3.heap.size := (by omega)); (try have m2y3 : y1.heap.size < y3.heap.size := (by omega)); (try have m3y3 : y2.heap.size < y3.heap.size := (by omega)))
               | (go_at_call 12; refine (HS.out _ _ (FltAt.kept o3 (by (repeat (first | with_reducible exact But.refl _ _ _ | with_reducible apply But.drewN | with_reducible apply But.drew | with_reducible apply But.alloc | (with_reducible refine But.setNew ?_ (by simp; try omega) _)))))).mono ?_; rintro e y4 ⟨v4, rfl, oA, k4⟩; obtain ⟨ao4, cap4, hfm⟩ := oA.form; subst hfm; obtain ⟨lo4, hlo4, oA⟩ : ∃ lo, lo = _ ∧ FltO y4 lo y4.heap.size _ R := ⟨_, rfl, oA⟩; (try simp at hlo4); have hcy4 := k4.cell_eq; have hfy4 := k4.frozen_eq; have hzy4 := k4.size; (try simp at hzy4); have n0y4 : w.heap.size < y4.heap.size := (by omega); have n1y4 : w.heap.size + 1 < y4.heap.size := (by omega); have kwy4 : Kept u2 y4 := (But.trans (by (repeat (first | with_reducible exact kwy3 | with_reducible apply But.drewN | with_reducible apply But.drew | with_reducible apply But.alloc | (with_reducible refine But.setNew ?_ (by simp; try omega) _)))) k4); have a0y4 := Kept.cell kwy4 a0; have a1y4 := Kept.cell kwy4 a1; have a2y4 := Kept.cell kwy4 a2; have a3y4 := Kept.cell kwy4 a3; have a4y4 := Kept.cell kwy4 a4; have a5y4 := Kept.cell kwy4 a5; have a6y4 := Kept.cell kwy4 a6; (try have m1y4 : u2.heap.size < y4.heap.size := (by omega)); (try have m2y4 : y1.heap.size < y4.heap.size := (by omega)); (try have m3y4 : y2.heap.size < y4.heap.size := (by omega)); (try have m4y4 : y3.heap.size < y4.heap.size := (by omega)); (try have ys00 : (y4.cell? ⟨u2.heap.size, 0, none⟩).isSome = true := (by first | (simp [go_sem, *]; done) | fail)); (try have yf00 : y4.frozen? ⟨u2.heap.size, 0, none⟩ = false := (by first | (simp [go_sem, *]; done) | fail)); (try have ys01 : (y4.cell? ⟨u2.heap.size, 1, none⟩).isSome = true := (by first | (simp [go_sem, *]; done) | fail)); (try have yf01 : y4.frozen? ⟨u2.heap.size, 1, none⟩ = false := (by first | (simp [go_sem, *]; done) | fail)); (try have ys10 : (y4.cell? ⟨y1.heap.size, 0, none⟩).isSome = true := (by first | (simp [go_sem, *]; done) | fail)); (try have yf10 : y4.frozen? ⟨y1.heap.size, 0, none⟩ = false := (by first | (simp [go_sem, *]; done) | fail)); (try have ys11 : (y4.cell? ⟨y1.heap.size, 1, none⟩).isSome = true := (by first | (simp [go_sem, *]; done) | fail)); (try have yf11 : y4.frozen? ⟨y1.heap.size, 1, none⟩ = false := (by first | (simp [go_sem, *]; done) | fail)); (try have ys20 : (y4.cell? ⟨y2.heap.size, 0, none⟩).isSome = true := (by first | (simp [go_sem, *]; done) | fail)); (try have yf20 : y4.frozen? ⟨y2.heap.size, 0, none⟩ = false := (by first | (simp [go_sem, *]; done) | fail)); (try have ys21 : (y4.cell? ⟨y2.heap.size, 1, none⟩).isSome = true := (by first | (simp [go_sem, *]; done) | fail)); (try have yf21 : y4.frozen? ⟨y2.heap.size, 1, none⟩ = false := (by first | (simp [go_sem, *]; done) | fail)); (try have ys30 : (y4.cell? ⟨y3.heap.size, 0, none⟩).isSome = true := (by first | (simp [go_sem, *]; done) | fail)); (try have yf30 : y4.frozen? ⟨y3.heap.size, 0, none⟩ = false := (by first | (simp [go_sem, *]; done) | fail)); (try have ys31 : (y4.cell? ⟨y3.heap.size, 1, none⟩).isSome = true := (by first | (simp [go_sem, *]; done) | fail)); (try have yf31 : y4.frozen? ⟨y3.heap.size, 1, none⟩ = false := (by first | (simp [go_sem, *]; done) | fail))))
    · repeat (first | go_values | go_skip | go_guarded | go_step | go_upon)
      go_meet
      case rel =>
        refine ⟨_, ao4, cap4, rfl, rfl, rfl, ⟨by simp [go_sem, *], by simp [go_sem, *], by simp; try omega⟩, by omega, by (repeat (first | with_reducible exact kwy4 | with_reducible apply But.drewN | with_reducible apply But.drew | with_reducible apply But.alloc | (with_reducible refine But.setNew ?_ (by simp; try omega) _))), lo4, y4.heap.size, by omega, by omega, by simp, ?_⟩
        exact FltO.kept oA ((But.refl _ _ _).alloc _)
    · repeat (first | go_values | go_skip | go_guarded | go_step | go_upon)
      go_meet
      case rel =>
        refine ⟨_, ao4, cap4, rfl, rfl, rfl, ⟨by simp [go_sem, *], by simp [go_sem, *], by simp; try omega⟩, by omega, by (repeat (first | with_reducible exact kwy4 | with_reducible apply But.drewN | with_reducible apply But.drew | with_reducible apply But.alloc | (with_reducible refine But.setNew ?_ (by simp; try omega) _))), lo4, y4.heap.size, by omega, by omega, by simp, ?_⟩
        exact FltO.but (lo' := y3.heap.size) (hi' := y3.heap.size + 1) oA (((But.refl _ _ _).setCell (by simp) (by simp) _).setCell (by simp) (by simp) _) (by omega)
    · repeat (first | go_values | go_skip | go_guarded | go_step | go_upon)
      go_meet
      case rel =>
        refine ⟨_, ao4, cap4, rfl, rfl, rfl, ⟨by simp [go_sem, *], by simp [go_sem, *], by simp; try omega⟩, by omega, by (repeat (first | with_reducible exact kwy4 | with_reducible apply But.drewN | with_reducible apply But.drew | with_reducible apply But.alloc | (with_reducible refine But.setNew ?_ (by simp; try omega) _))), lo4, y4.heap.size, by omega, by omega, by simp, ?_⟩
        exact FltO.but (lo' := y2.heap.size) (hi' := y2.heap.size + 1) oA (((But.refl _ _ _).setCell (by simp) (by simp) _).setCell (by simp) (by simp) _) (by omega)
    · repeat (first | go_values | go_skip | go_guarded | go_step | go_upon)
      go_meet
      case rel =>
        refine ⟨_, ao4, cap4, rfl, rfl, rfl, ⟨by simp [go_sem, *], by simp [go_sem, *], by simp; try omega⟩, by omega, by (repeat (first | with_reducible exact kwy4 | with_reducible apply But.drewN | with_reducible apply But.drew | with_reducible apply But.alloc | (with_reducible refine But.setNew ?_ (by simp; try omega) _))), lo4, y4.heap.size, by omega, by omega, by simp, ?_⟩
        exact FltO.but (lo' := y1.heap.size) (hi' := y1.heap.size + 1) oA (((But.refl _ _ _).setCell (by simp) (by simp) _).setCell (by simp) (by simp) _) (by omega)
    · repeat (first | go_values | go_skip | go_guarded | go_step | go_upon)
      go_meet
      case rel =>
        refine ⟨_, ao4, cap4, rfl, rfl, rfl, ⟨by simp [go_sem, *], by simp [go_sem, *], by simp; try omega⟩, by omega, by (repeat (first | with_reducible exact kwy4 | with_reducible apply But.drewN | with_reducible apply But.drew | with_reducible apply But.alloc | (with_reducible refine But.setNew ?_ (by simp; try omega) _))), lo4, y4.heap.size, by omega, by omega, by simp, ?_⟩
        exact FltO.but (lo' := u2.heap.size) (hi' := u2.heap.size + 1) oA (((But.refl _ _ _).setCell (by simp) (by simp) _).setCell (by simp) (by simp) _) (by omega)
  case rest =>
    obtain ⟨gw, ao4, cap4, rfl, rfl, rfl, Lw, hgw, k4, lo3, hi3, hlo3, hg3, hhi3, ow⟩ := hcut
    have hw2 : w.heap.size < u2.heap.size := al
    have hw3 : w.heap.size + 1 < u2.heap.size := bl
    have s4 := k4.size
    have hgl := Lw.2.2
    have K4 := K2.trans k4
    have La := La.kept k4
    have Lb := Lb.kept k4
    clear a0 a1 a2 a3 a4 a5 a6 al bl K2 k4
    repeat (first | go_values | go_skip | go_guarded | go_step | go_upon)
    go_at_call 17
    refine (toFltS l _ _ (hv.kept K4) hl).mono ?_
    rintro e u5 ⟨v5, rfl, ox, k5⟩
    have K5 := K4.trans k5
    have La := La.kept k5
    have Lb := Lb.kept k5
    have Lw := Lw.kept k5
    have ow := ow.kept k5
    have s5 := k5.size
    obtain ⟨ao5, cap5, hfm⟩ := ox.form
    subst hfm
    obtain ⟨lo5, hlo5, ox⟩ : ∃ lo, lo = _ ∧ FltO u5 lo u5.heap.size _ l := ⟨_, rfl, ox⟩
    clear K4 k5
    have a0 := La.cell 0 rfl
    have a1 := La.cell 1 rfl
    have a2 := La.cell 2 rfl
    have a3 := La.cell 3 rfl
    have a4 := La.cell 4 rfl
    have a5 := Lb.cell 0 rfl
    have a6 := Lb.cell 1 rfl
    have al := La.lt
    have bl := Lb.lt
    dsimp only
    repeat (first | go_values | go_skip | go_guarded | go_step | go_upon)
    go_cut [11, 12, 13] from 36 to 45 (fun v6 v7 v8 wx => ∃ gw aoA capA, v7 = .pointer (some ⟨gw, 0, none⟩) ∧ v6 = .slice aoA R.length capA ∧ v8 = .bool jb ∧ LocR2 wx gw (.float .f64 r1) (.float .f64 r2) ∧ u5.heap.size ≤ gw ∧ Kept u5 wx ∧ ∃ lo hi, u5.heap.size ≤ lo ∧ (gw < lo ∨ hi ≤ gw) ∧ hi ≤ wx.heap.size ∧ FltO wx lo hi (.slice aoA R.length capA) R)
    case first =>
      go_region_held3 (fun w' => w'.cell? ⟨w.heap.size, 0, none⟩ = some (.float .f64 f0) ∧ w'.cell? ⟨w.heap.size, 1, none⟩ = some (.float .f64 f1) ∧ w'.cell? ⟨w.heap.size, 2, none⟩ = some (.float .f64 f2) ∧ w'.cell? ⟨w.heap.size, 3, none⟩ = some (.float .f64 f3) ∧ w'.cell? ⟨w.heap.size, 4, none⟩ = some (.float .f64 f4) ∧ w'.cell? ⟨w.heap.size + 1, 0, none⟩ = some (.float .f64 s1) ∧ w'.cell? ⟨w.heap.size + 1, 1, none⟩ = some (.float .f64 s2)) (simp [go_sem, *])
        (first | (go_at_call 14; refine (toFilter f0 f1 f2 f3 f4 _).mono ?_; rintro e y1 ⟨rfl, k1⟩; have hcy1 := k1.cell_eq; have hfy1 := k1.frozen_eq; have hzy1 := k1.size; (try simp at hzy1); have n0y1 : w.heap.size < y1.heap.size := (by omega); have n1y1 : w.heap.size + 1 < y1.heap.size := (by omega); have kwy1 : Kept u5 y1 := (But.trans (by (repeat (first | with_reducible exact But.refl _ _ _ | with_reducible apply But.drewN | with_reducible apply But.drew | with_reducible apply But.alloc | (with_reducible refine But.setNew ?_ (by simp; try omega) _)))) k1); have a0y1 := Kept.cell kwy1 a0; have a1y1 := Kept.cell kwy1 a1; have a2y1 := Kept.cell kwy1 a2; have a3y1 := Kept.cell kwy1 a3; have a4y1 := Kept.cell kwy1 a4; have a5y1 := Kept.cell kwy1 a5; have a6y1 := Kept.cell kwy1 a6; (try have m1y1 : u5.heap.size < y1.heap.size := (by omega)))
                 | (go_at_call 16; refine (toMemory s1 s2 _).mono ?_; rintro e y2 ⟨rfl, k2⟩; have hcy2 := k2.cell_eq; have hfy2 := k2.frozen_eq; have hzy2 := k2.size; (try simp at hzy2); have n0y2 : w.heap.size < y2.heap.size := (by omega); have n1y2 : w.heap.size + 1 < y2.heap.size := (by omega); have kwy2 : Kept u5 y2 := (But.trans (by (repeat (first | with_reducible exact kwy1 | with_reducible apply But.drewN | with_reducible apply But.drew | with_reducible apply But.alloc | (with_reducible refine But.setNew ?_ (by simp; try omega) _)))) k2); have a0y2 := Kept.cell kwy2 a0; have a1y2 := Kept.cell kwy2 a1; have a2y2 := Kept.cell kwy2 a2; have a3y2 := Kept.cell kwy2 a3; have a4y2 := Kept.cell kwy2 a4; have a5y2 := Kept.cell kwy2 a5; have a6y2 := Kept.cell kwy2 a6; (try have m1y2 : u5.heap.size < y2.heap.size := (by omega)); (try have m2y2 : y1.heap.size < y2.heap.size := (by omega)))
                 | (go_at_call 11; refine (HI.out _ _ (FltAt.kept ox.at (by (repeat (first | with_reducible exact kwy2 | with_reducible apply But.drewN | with_reducible apply But.drew | with_reducible apply But.alloc | (with_reducible refine But.setNew ?_ (by simp; try omega) _)))))).mono ?_; rintro e y4 ⟨v4, rfl, oA, k4⟩; obtain ⟨ao4, cap4, hfm⟩ := oA.form; subst hfm; obtain ⟨lo4, hlo4, oA⟩ : ∃ lo, lo = _ ∧ FltO y4 lo y4.heap.size _ R := ⟨_, rfl, oA⟩; (try simp at hlo4); have hcy4 := k4.cell_eq; have hfy4 := k4.frozen_eq; have hzy4 := k4.size; (try simp at hzy4); have n0y4 : w.heap.size < y4.heap.size := (by omega); have n1y4 : w.heap.size + 1 < y4.heap.size := (by omega); have kwy4 : Kept u5 y4 := (But.trans (by (repeat (first | with_reducible exact kwy2 | with_reducible apply But.drewN | with_reducible apply But.drew | with_reducible apply But.alloc | (with_reducible refine But.setNew ?_ (by simp; try omega) _)))) k4); have a0y4 := Kept.cell kwy4 a0; have a1y4 := Kept.cell kwy4 a1; have a2y4 := Kept.cell kwy4 a2; have a3y4 := Kept.cell kwy4 a3; have a4y4 := Kept.cell kwy4 a4; have a5y4 := Kept.cell kwy4 a5; have a6y4 := Kept.cell kwy4 a6; (try have m1y4 : u5.heap.size < y4.heap.size := (by omega)); (try have m2y4 : y1.heap.size < y4.heap.size := (by omega)); (try have m3y4 : y2.heap.size < y4.heap.size := (by omega)); (try have ys00 : (y4.cell? ⟨u5.heap.size, 0, none⟩).isSome = true := (by first | (simp [go_sem, *]; done) | fail)); (try have yf00 : y4.frozen? ⟨u5.heap.size, 0, none⟩ = false := (by first | (simp [go_sem, *]; done) | fail)); (try have ys01 : (y4.cell? ⟨u5.heap.size, 1, none⟩).isSome = true := (by first | (simp [go_sem, *]; done) | fail)); (try have yf01 : y4.frozen? ⟨u5.heap.size, 1, none⟩ = false := (by first | (simp [go_sem, *]; done) | fail)); (try have ys10 : (y4.cell? ⟨y1.heap.size, 0, none⟩).isSome = true := (by first | (simp [go_sem, *]; done) | fail)); (try have yf10 : y4.frozen? ⟨y1.heap.size, 0, none⟩ = false := (by first | (simp [go_sem, *]; done) | fail)); (try have ys11 : (y4.cell? ⟨y1.heap.size, 1, none⟩).isSome = true := (by first | (simp [go_sem, *]; done) | fail)); (try have yf11 : y4.frozen? ⟨y1.heap.size, 1, none⟩ = false := (by first | (simp [go_sem, *]; done) | fail)); (try have ys20 : (y4.cell? ⟨y2.heap.size, 0, none⟩).isSome = true := (by first | (simp [go_sem, *]; done) | fail)); (try have yf20 : y4.frozen? ⟨y2.heap.size, 0, none⟩ = false := (by first | (simp [go_sem, *]; done) | fail)); (try have ys21 : (y4.cell? ⟨y2.heap.size, 1, none⟩).isSome = true := (by first | (simp [go_sem, *]; done) | fail)); (try have yf21 : y4.frozen? ⟨y2.heap.size, 1, none⟩ = false := (by first | (simp [go_sem, *]; done) | fail))))
      · repeat (first | go_values | go_skip | go_guarded | go_step | go_upon)
        go_meet
        case rel =>
          refine ⟨_, ao4, cap4, rfl, rfl, rfl, ⟨by simp [go_sem, *], by simp [go_sem, *], by simp; try omega⟩, by omega, by (repeat (first | with_reducible exact kwy4 | with_reducible apply But.drewN | with_reducible apply But.drew | with_reducible apply But.alloc | (with_reducible refine But.setNew ?_ (by simp; try omega) _))), lo4, y4.heap.size, by omega, by omega, by simp, ?_⟩
          exact FltO.kept oA ((But.refl _ _ _).alloc _)
      · repeat (first | go_values | go_skip | go_guarded | go_step | go_upon)
        go_meet
        case rel =>
          refine ⟨_, ao4, cap4, rfl, rfl, rfl, ⟨by simp [go_sem, *], by simp [go_sem, *], by simp; try omega⟩, by omega, by (repeat (first | with_reducible exact kwy4 | with_reducible apply But.drewN | with_reducible apply But.drew | with_reducible apply But.alloc | (with_reducible refine But.setNew ?_ (by simp; try omega) _))), lo4, y4.heap.size, by omega, by omega, by simp, ?_⟩
          exact FltO.but (lo' := y2.heap.size) (hi' := y2.heap.size + 1) oA (((But.refl _ _ _).setCell (by simp) (by simp) _).setCell (by simp) (by simp) _) (by omega)
      · repeat (first | go_values | go_skip | go_guarded | go_step | go_upon)
        go_meet
        case rel =>
          refine ⟨_, ao4, cap4, rfl, rfl, rfl, ⟨by simp [go_sem, *], by simp [go_sem, *], by simp; try omega⟩, by omega, by (repeat (first | with_reducible exact kwy4 | with_reducible apply But.drewN | with_reducible apply But.drew | with_reducible apply But.alloc | (with_reducible refine But.setNew ?_ (by simp; try omega) _))), lo4, y4.heap.size, by omega, by omega, by simp, ?_⟩
          exact FltO.but (lo' := y1.heap.size) (hi' := y1.heap.size + 1) oA (((But.refl _ _ _).setCell (by simp) (by simp) _).setCell (by simp) (by simp) _) (by omega)
      · repeat (first | go_values | go_skip | go_guarded | go_step | go_upon)
        go_meet
        case rel =>
          refine ⟨_, ao4, cap4, rfl, rfl, rfl, ⟨by simp [go_sem, *], by simp [go_sem, *], by simp; try omega⟩, by omega, by (repeat (first | with_reducible exact kwy4 | with_reducible apply But.drewN | with_reducible apply But.drew | with_reducible apply But.alloc | (with_reducible refine But.setNew ?_ (by simp; try omega) _))), lo4, y4.heap.size, by omega, by omega, by simp, ?_⟩
          exact FltO.but (lo' := u5.heap.size) (hi' := u5.heap.size + 1) oA (((But.refl _ _ _).setCell (by simp) (by simp) _).setCell (by simp) (by simp) _) (by omega)
    case rest =>
      obtain ⟨gg, ao9, cap9, rfl, rfl, rfl, Lg, hgg, k9, lo9, hi9, hlo9, hg9, hhi9, og⟩ := hcut
      have s9 := k9.size
      have hggl := Lg.2.2
      have K9 := K5.trans k9
      have La := La.kept k9
      have Lb := Lb.kept k9
      have Lw := Lw.kept k9
      have ow := ow.kept k9
      have ox := ox.kept k9
      clear a0 a1 a2 a3 a4 a5 a6 al bl K5 k9
      repeat (first | go_values | go_skip | go_guarded | go_step | go_upon)
      go_at_call 18
      refine (eqFltS R _ _ _ og.at ow.at (by omega)).mono ?_
      rintro e u10 ⟨rfl, k10⟩
      have K10 := K9.trans k10
      have La := La.kept k10
      have Lb := Lb.kept k10
      have Lw := Lw.kept k10
      have ow := ow.kept k10
      have ox := ox.kept k10
      have og := og.kept k10
      have Lg := Lg.kept k10
      have s10 := k10.size
      clear K9 k10
      have x0 := Lw.1
      have x1 := Lw.2.1
      have xl := Lw.2.2
      have g0 := Lg.1
      have g1 := Lg.2.1
      have gl := Lg.2.2
      dsimp only
      repeat (first | go_values | go_skip | go_guarded | go_step | go_upon)
      go_at_call 19
      refine (eqMemory r1 r2 _).mono ?_
      rintro e u11 ⟨rfl, k11⟩
      have K11 := K10.trans k11
      have La := La.kept k11
      have Lb := Lb.kept k11
      have Lw := Lw.kept k11
      have ow := ow.kept k11
      have ox := ox.kept k11
      have og := og.kept k11
      have Lg := Lg.kept k11
      have s11 := k11.size
      clear K10 k11 x0 x1 xl g0 g1 gl
      dsimp only
      repeat (first | go_values | go_skip | go_guarded | go_step | go_upon)
      go_at_call 17
      refine (toFltS l _ _ (hv.kept K11) hl).mono ?_
      rintro e u12 ⟨v12, rfl, o12, k12⟩
      have K12 := K11.trans k12
      have La := La.kept k12
      have Lb := Lb.kept k12
      have Lw := Lw.kept k12
      have ow := ow.kept k12
      have ox := ox.kept k12
      have og := og.kept k12
      have Lg := Lg.kept k12
      have s12 := k12.size
      obtain ⟨ao12, cap12, hfm⟩ := o12.form
      subst hfm
      clear K11 k12
      dsimp only
      repeat (first | go_values | go_skip | go_guarded | go_step | go_upon)
      go_at_call 18
      refine (eqFltS l _ _ _ ox.at o12.at (by omega)).mono ?_
      rintro e u13 ⟨rfl, k13⟩
      have K13 := K12.trans k13
      have La := La.kept k13
      have Lb := Lb.kept k13
      have Lw := Lw.kept k13
      have ow := ow.kept k13
      have ox := ox.kept k13
      have og := og.kept k13
      have Lg := Lg.kept k13
      have s13 := k13.size
      clear K12 k13 o12
      dsimp only
      repeat (first | go_values | go_skip | go_guarded | go_step | go_upon)
      go_at_call 20
      refine (markFltS l _ 1 lo5 u5.heap.size _ ox (by omega)).mono ?_
      rintro e u14 ⟨rfl, -, b14⟩
      obtain ⟨q1, hq1⟩ : ∃ q, 1 + l.length = q := ⟨_, rfl⟩
      rw [hq1]
      have hdq1 : decide ((q1 : Int) < 0) = false := by simp
      clear hq1
      have k14 := b14.inner ox
      have K14 : Kept w _ := But.onto K13 k14 (by omega)
      have La := La.but k14 (by omega)
      have Lb := Lb.but k14 (by omega)
      have Lw := Lw.but k14 (by omega)
      have ow := ow.but k14 (by omega)
      have og := og.but k14 (by omega)
      have Lg := Lg.but k14 (by omega)
      have s14 := k14.size
      clear k14 b14 K13 ox
      dsimp only
      repeat (first | go_values | go_skip | go_guarded | go_step | go_upon)
      go_at_call 18
      refine (eqFltS R _ _ _ og.at ow.at (by omega)).mono ?_
      rintro e u15 ⟨rfl, k15⟩
      have K15 := K14.trans k15
      have La := La.kept k15
      have Lb := Lb.kept k15
      have Lw := Lw.kept k15
      have ow := ow.kept k15
      have og := og.kept k15
      have Lg := Lg.kept k15
      have s15 := k15.size
      clear K14 k15
      have x0 := Lw.1
      have x1 := Lw.2.1
      have xl := Lw.2.2
      have g0 := Lg.1
      have g1 := Lg.2.1
      have gl := Lg.2.2
      dsimp only
      repeat (first | go_values | go_skip | go_guarded | go_step | go_upon)
      go_at_call 19
      refine (eqMemory r1 r2 _).mono ?_
      rintro e u16 ⟨rfl, k16⟩
      have K16 := K15.trans k16
      have La := La.kept k16
      have Lb := Lb.kept k16
      have Lw := Lw.kept k16
      have ow := ow.kept k16
      have og := og.kept k16
      have Lg := Lg.kept k16
      have s16 := k16.size
      clear K15 k16 hdq1 x0 x1 xl g0 g1 gl
      dsimp only
      repeat (first | go_values | go_skip | go_guarded | go_step | go_upon)
      go_at_call 20
      refine (markFltS R _ 1 lo9 hi9 _ og (by omega)).mono ?_
      rintro e u17 ⟨rfl, o15, b17⟩
      obtain ⟨q3, hq3⟩ : ∃ q, 1 + R.length = q := ⟨_, rfl⟩
      rw [hq3]
      have HQ3 : Hid (1 + R.length = q3) := hq3
      have hdq3 : decide ((q3 : Int) < 0) = false := by simp
      clear hq3
      have k17 := b17.inner og
      have K17 : Kept w _ := But.onto K16 k17 (by omega)
      have La := La.but k17 (by omega)
      have Lb := Lb.but k17 (by omega)
      have Lw := Lw.but k17 (by omega)
      have ow := ow.but k17 (by omega)
      have Lg := Lg.but k17 (by omega)
      have s17 := k17.size
      clear k17 b17 K16 og
      dsimp only
      repeat (first | go_values | go_skip | go_guarded | go_step | go_upon)
      go_at_call 21
      refine (heldFltS R.length _ 1 _ o15.at (by omega)).mono ?_
      rintro e u18 ⟨rfl, k18⟩
      rw [HQ3.out]
      have K18 := K17.trans k18
      have La := La.kept k18
      have Lb := Lb.kept k18
      have Lw := Lw.kept k18
      have ow := ow.kept k18
      have Lg := Lg.kept k18
      have o15 := o15.kept k18
      have s18 := k18.size
      clear K17 k18
      have a0 := La.cell 0 rfl
      have a1 := La.cell 1 rfl
      have a2 := La.cell 2 rfl
      have a3 := La.cell 3 rfl
      have a4 := La.cell 4 rfl
      have a5 := Lb.cell 0 rfl
      have a6 := Lb.cell 1 rfl
      have al := La.lt
      have bl := Lb.lt
      dsimp only
      repeat (first | go_values | go_skip | go_guarded | go_step | go_upon)
      go_cut [17, 18, 19] from 99 to 109 (fun v6 v7 v8 wx => ∃ gw aoA capA, v7 = .pointer (some ⟨gw, 0, none⟩) ∧ v6 = .slice aoA R.length capA ∧ v8 = .bool jb ∧ LocR2 wx gw (.float .f64 r1) (.float .f64 r2) ∧ u18.heap.size ≤ gw ∧ Kept u18 wx ∧ ∃ lo hi, u18.heap.size ≤ lo ∧ (gw < lo ∨ hi ≤ gw) ∧ hi ≤ wx.heap.size ∧ FltO wx lo hi (.slice aoA R.length capA) R)
      case first =>
        go_region_held3 (fun w' => w'.cell? ⟨w.heap.size, 0, none⟩ = some (.float .f64 f0) ∧ w'.cell? ⟨w.heap.size, 1, none⟩ = some (.float .f64 f1) ∧ w'.cell? ⟨w.heap.size, 2, none⟩ = some (.float .f64 f2) ∧ w'.cell? ⟨w.heap.size, 3, none⟩ = some (.float .f64 f3) ∧ w'.cell? ⟨w.heap.size, 4, none⟩ = some (.float .f64 f4) ∧ w'.cell? ⟨w.heap.size + 1, 0, none⟩ = some (.float .f64 s1) ∧ w'.cell? ⟨w.heap.size + 1, 1, none⟩ = some (.float .f64 s2)) (simp [go_sem, *])
          (first | (go_at_call 14; refine (toFilter f0 f1 f2 f3 f4 _).mono ?_; rintro e y1 ⟨rfl, k1⟩; have hcy1 := k1.cell_eq; have hfy1 := k1.frozen_eq; have hzy1 := k1.size; (try simp at hzy1); have n0y1 : w.heap.size < y1.heap.size := (by omega); have n1y1 : w.heap.size + 1 < y1.heap.size := (by omega); have kwy1 : Kept u18 y1 := (But.trans (by (repeat (first | with_reducible exact But.refl _ _ _ | with_reducible apply But.drewN | with_reducible apply But.drew | with_reducible apply But.alloc | (with_reducible refine But.setNew ?_ (by simp; try omega) _)))) k1); have a0y1 := Kept.cell kwy1 a0; have a1y1 := Kept.cell kwy1 a1; have a2y1 := Kept.cell kwy1 a2; have a3y1 := Kept.cell kwy1 a3; have a4y1 := Kept.cell kwy1 a4; have a5y1 := Kept.cell kwy1 a5; have a6y1 := Kept.cell kwy1 a6; (try have m1y1 : u18.heap.size < y1.heap.size := (by omega)))
                   | (go_at_call 16; refine (toMemory s1 s2 _).mono ?_; rintro e y2 ⟨rfl, k2⟩; have hcy2 := k2.cell_eq; have hfy2 := k2.frozen_eq; have hzy2 := k2.size; (try simp at hzy2); have n0y2 : w.heap.size < y2.heap.size := (by omega); have n1y2 : w.heap.size + 1 < y2.heap.size := (by omega); have kwy2 : Kept u18 y2 := (But.trans (by (repeat (first | with_reducible exact kwy1 | with_reducible apply But.drewN | with_reducible apply But.drew | with_reducible apply But.alloc | (with_reducible refine But.setNew ?_ (by simp; try omega) _)))) k2); have a0y2 := Kept.cell kwy2 a0; have a1y2 := Kept.cell kwy2 a1; have a2y2 := Kept.cell kwy2 a2; have a3y2 := Kept.cell kwy2 a3; have a4y2 := Kept.cell kwy2 a4; have a5y2 := Kept.cell kwy2 a5; have a6y2 := Kept.cell kwy2 a6; (try have m1y2 : u18.heap.size < y2.heap.size := (by omega)); (try have m2y2 : y1.heap.size < y2.heap.size := (by omega)))
                   | (go_at_call 17; refine (toFltS l _ _ (hv.kept (But.trans K18 (by (repeat (first | with_reducible exact kwy2 | with_reducible apply But.drewN | with_reducible apply But.drew | with_reducible apply But.alloc | (with_reducible refine But.setNew ?_ (by simp; try omega) _)))))) hl).mono ?_; rintro e y3 ⟨v3, rfl, o3, k3⟩; obtain ⟨ao3, cap3, hfm⟩ := o3.form; subst hfm; have o3 := o3.at; have hcy3 := k3.cell_eq; have hfy3 := k3.frozen_eq; have hzy3 := k3.size; (try simp at hzy3); have n0y3 : w.heap.size < y3.heap.size := (by omega); have n1y3 : w.heap.size + 1 < y3.heap.size := (by omega); have kwy3 : Kept u18 y3 := (But.trans (by (repeat (first | with_reducible exact kwy2 | with_reducible apply But.drewN | with_reducible apply But.drew | with_reducible apply But.alloc | (with_reducible refine But.setNew ?_ (by simp; try omega) _)))) k3); have a0y3 := Kept.cell kwy3 a0; have a1y3 := Kept.cell kwy3 a1; have a2y3 := Kept.cell kwy3 a2; have a3y3 := Kept.cell kwy3 a3; have a4y3 := Kept.cell kwy3 a4; have a5y3 := Kept.cell kwy3 a5; have a6y3 := Kept.cell kwy3 a6; (try have m1y3 : u18.heap.size < y3.heap.size := (by omega)); (try have m2y3 : y1.heap.size < y3.heap.size := (by omega)); (try have m3y3 : y2.heap.size < y3.heap.size := (by omega)))
                   | (go_at_call 11; refine (HI.out _ _ (FltAt.kept o3 (by (repeat (first | with_reducible exact But.refl _ _ _ | with_reducible apply But.drewN | with_reducible apply But.drew | with_reducible apply But.alloc | (with_reducible refine But.setNew ?_ (by simp; try omega) _)))))).mono ?_; rintro e y4 ⟨v4, rfl, oA, k4⟩; obtain ⟨ao4, cap4, hfm⟩ := oA.form; subst hfm; obtain ⟨lo4, hlo4, oA⟩ : ∃ lo, lo = _ ∧ FltO y4 lo y4.heap.size _ R := ⟨_, rfl, oA⟩; (try simp at hlo4); have hcy4 := k4.cell_eq; have hfy4 := k4.frozen_eq; have hzy4 := k4.size; (try simp at hzy4); have n0y4 : w.heap.size < y4.heap.size := (by omega); have n1y4 : w.heap.size + 1 < y4.heap.size := (by omega); have kwy4 : Kept u18 y4 := (But.trans (by (repeat (first | with_reducible exact kwy3 | with_reducible apply But.drewN | with_reducible apply But.drew | with_reducible apply But.alloc | (with_reducible refine But.setNew ?_ (by simp; try omega) _)))) k4); have a0y4 := Kept.cell kwy4 a0; have a1y4 := Kept.cell kwy4 a1; have a2y4 := Kept.cell kwy4 a2; have a3y4 := Kept.cell kwy4 a3; have a4y4 := Kept.cell kwy4 a4; have a5y4 := Kept.cell kwy4 a5; have a6y4 := Kept.cell kwy4 a6; (try have m1y4 : u18.heap.size < y4.heap.size := (by omega)); (try have m2y4 : y1.heap.size < y4.heap.size := (by omega)); (try have m3y4 : y2.heap.size < y4.heap.size := (by omega)); (try have m4y4 : y3.heap.size < y4.heap.size := (by omega)); (try have ys00 : (y4.cell? ⟨u18.heap.size, 0, none⟩).isSome = true := (by first | (simp [go_sem, *]; done) | fail)); (try have yf00 : y4.frozen? ⟨u18.heap.size, 0, none⟩ = false := (by first | (simp [go_sem, *]; done) | fail)); (try have ys01 : (y4.cell? ⟨u18.heap.size, 1, none⟩).isSome = true := (by first | (simp [go_sem, *]; done) | fail)); (try have yf01 : y4.frozen? ⟨u18.heap.size, 1, none⟩ = false := (by first | (simp [go_sem, *]; done) | fail)); (try have ys10 : (y4.cell? ⟨y1.heap.size, 0, none⟩).isSome = true := (by first | (simp [go_sem, *]; done) | fail)); (try have yf10 : y4.frozen? ⟨y1.heap.size, 0, none⟩ = false := (by first | (simp [go_sem, *]; done) | fail)); (try have ys11 : (y4.cell? ⟨y1.heap.size, 1, none⟩).isSome = true := (by first | (simp [go_sem, *]; done) | fail)); (try have yf11 : y4.frozen? ⟨y1.heap.size, 1, none⟩ = false := (by first | (simp [go_sem, *]; done) | fail)); (try have ys20 : (y4.cell? ⟨y2.heap.size, 0, none⟩).isSome = true := (by first | (simp [go_sem, *]; done) | fail)); (try have yf20 : y4.frozen? ⟨y2.heap.size, 0, none⟩ = false := (by first | (simp [go_sem, *]; done) | fail)); (try have ys21 : (y4.cell? ⟨y2.heap.size, 1, none⟩).isSome = true := (by first | (simp [go_sem, *]; done) | fail)); (try have yf21 : y4.frozen? ⟨y2.heap.size, 1, none⟩ = false := (by first | (simp [go_sem, *]; done) | fail)); (try have ys30 : (y4.cell? ⟨y3.heap.size, 0, none⟩).isSome = true := (by first | (simp [go_sem, *]; done) | fail)); (try have yf30 : y4.frozen? ⟨y3.heap.size, 0, none⟩ = false := (by first | (simp [go_sem, *]; done) | fail)); (try have ys31 : (y4.cell? ⟨y3.heap.size, 1, none⟩).isSome = true := (by first | (simp [go_sem, *]; done) | fail)); (try have yf31 : y4.frozen? ⟨y3.heap.size, 1, none⟩ = false := (by first | (simp [go_sem, *]; done) | fail))))
        · repeat (first | go_values | go_skip | go_guarded | go_step | go_upon)
          go_meet
          case rel =>
            refine ⟨_, ao4, cap4, rfl, rfl, rfl, ⟨by simp [go_sem, *], by simp [go_sem, *], by simp; try omega⟩, by omega, by (repeat (first | with_reducible exact kwy4 | with_reducible apply But.drewN | with_reducible apply But.drew | with_reducible apply But.alloc | (with_reducible refine But.setNew ?_ (by simp; try omega) _))), lo4, y4.heap.size, by omega, by omega, by simp, ?_⟩
            exact FltO.kept oA ((But.refl _ _ _).alloc _)
        · repeat (first | go_values | go_skip | go_guarded | go_step | go_upon)
          go_meet
          case rel =>
            refine ⟨_, ao4, cap4, rfl, rfl, rfl, ⟨by simp [go_sem, *], by simp [go_sem, *], by simp; try omega⟩, by omega, by (repeat (first | with_reducible exact kwy4 | with_reducible apply But.drewN | with_reducible apply But.drew | with_reducible apply But.alloc | (with_reducible refine But.setNew ?_ (by simp; try omega) _))), lo4, y4.heap.size, by omega, by omega, by simp, ?_⟩
            exact FltO.but (lo' := y3.heap.size) (hi' := y3.heap.size + 1) oA (((But.refl _ _ _).setCell (by simp) (by simp) _).setCell (by simp) (by simp) _) (by omega)
        · repeat (first | go_values | go_skip | go_guarded | go_step | go_upon)
          go_meet
          case rel =>
            refine ⟨_, ao4, cap4, rfl, rfl, rfl, ⟨by simp [go_sem, *], by simp [go_sem, *], by simp; try omega⟩, by omega, by (repeat (first | with_reducible exact kwy4 | with_reducible apply But.drewN | with_reducible apply But.drew | with_reducible apply But.alloc | (with_reducible refine But.setNew ?_ (by simp; try omega) _))), lo4, y4.heap.size, by omega, by omega, by simp, ?_⟩
            exact FltO.but (lo' := y2.heap.size) (hi' := y2.heap.size + 1) oA (((But.refl _ _ _).setCell (by simp) (by simp) _).setCell (by simp) (by simp) _) (by omega)
        · repeat (first | go_values | go_skip | go_guarded | go_step | go_upon)
          go_meet
          case rel =>
            refine ⟨_, ao4, cap4, rfl, rfl, rfl, ⟨by simp [go_sem, *], by simp [go_sem, *], by simp; try omega⟩, by omega, by (repeat (first | with_reducible exact kwy4 | with_reducible apply But.drewN | with_reducible apply But.drew | with_reducible apply But.alloc | (with_reducible refine But.setNew ?_ (by simp; try omega) _))), lo4, y4.heap.size, by omega, by omega, by simp, ?_⟩
            exact FltO.but (lo' := y1.heap.size) (hi' := y1.heap.size + 1) oA (((But.refl _ _ _).setCell (by simp) (by simp) _).setCell (by simp) (by simp) _) (by omega)
        · repeat (first | go_values | go_skip | go_guarded | go_step | go_upon)
          go_meet
          case rel =>
            refine ⟨_, ao4, cap4, rfl, rfl, rfl, ⟨by simp [go_sem, *], by simp [go_sem, *], by simp; try omega⟩, by omega, by (repeat (first | with_reducible exact kwy4 | with_reducible apply But.drewN | with_reducible apply But.drew | with_reducible apply But.alloc | (with_reducible refine But.setNew ?_ (by simp; try omega) _))), lo4, y4.heap.size, by omega, by omega, by simp, ?_⟩
            exact FltO.but (lo' := u18.heap.size) (hi' := u18.heap.size + 1) oA (((But.refl _ _ _).setCell (by simp) (by simp) _).setCell (by simp) (by simp) _) (by omega)
      case rest =>
        obtain ⟨gh, aoh, caph, rfl, rfl, rfl, Lh, hgh, kh, loh, hih, hloh, hgh3, hhih, oh⟩ := hcut
        have K25 := K18.trans kh
        have ow := ow.kept kh
        have Lw := Lw.kept kh
        have o15 := o15.kept kh
        clear a0 a1 a2 a3 a4 a5 a6 al bl K18 kh
        repeat (first | go_values | go_skip | go_guarded | go_step | go_upon)
        go_at_call 18
        refine (eqFltS R _ _ _ oh.at ow.at (by omega)).mono ?_
        rintro e u26 ⟨rfl, k26⟩
        have K26 := K25.trans k26
        have ow := ow.kept k26
        have oh := oh.kept k26
        have o15 := o15.kept k26
        have Lw := Lw.kept k26
        have Lh := Lh.kept k26
        clear K25 k26
        have x0 := Lw.1
        have x1 := Lw.2.1
        have xl := Lw.2.2
        have g0 := Lh.1
        have g1 := Lh.2.1
        have gl := Lh.2.2
        dsimp only
        repeat (first | go_values | go_skip | go_guarded | go_step | go_upon)
        go_at_call 19
        refine (eqMemory r1 r2 _).mono ?_
        rintro e u27 ⟨rfl, k27⟩
        have K27 := K26.trans k27
        have o15 := o15.kept k27
        clear K26 k27 x0 x1 xl g0 g1 gl
        dsimp only
        repeat (first | go_values | go_skip | go_guarded | go_step | go_upon)
        go_at_call 21
        refine (heldFltS R.length _ 1 _ o15.at (by omega)).mono ?_
        rintro e u28 ⟨rfl, k28⟩
        rw [HQ3.out]
        have K28 := K27.trans k28
        dsimp only
        repeat (first | go_values | go_skip | go_guarded | go_step | go_upon)
        go_ret
        exact ⟨rfl, K28⟩

end Go.Proofs.Ytghmnhohdbombaa
