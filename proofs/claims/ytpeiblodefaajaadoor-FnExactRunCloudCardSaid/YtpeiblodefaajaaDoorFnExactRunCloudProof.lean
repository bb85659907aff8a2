/-
  At every emitter, every cloud and every number of steps, where the sine table lies as the program lays it, the program's RunCloud answers what the specification's RunCloud answers, writes into no argument and keeps nothing of one; its answer owns its memory.
-/
import Derived.Test.YtpeiblodefaajaaDoorKit
import Derived.Test.YtpeiblodefaajaaDoorTie
import Derived.Test.YtpeiblodefaajaaDoorCards
import Derived.Test.YtpeiblodefaajaaDoorRunS12
import Derived.Test.YtpeiblodefaajaaDoorCloudF
import Derived.Test.YtpeiblodefaajaaDoorCloudG
import Derived.Test.YtpeiblodefaajaaDoorOpenC
import Derived.SevenTiedAt
namespace Go.Proofs.YtpeiblodefaajaaDoor.fnExactRunCloud
open Go.ChangeShapes Go.WideShapes Go.ChangeAt Go.RowKit
set_option linter.unusedVariables false

theorem var_kept {W W' : World} (hT : Tab W) (hg : Kept W W') (h : W.var? Tryd.prog "loop.example/g00064/impl.sineTable" = some cells17) : W'.var? Tryd.prog "loop.example/g00064/impl.sineTable" = some cells17 := by
  have e := hg.block 0 hT.size (by omega)
  simp only [World.var?, gTab, Option.bind_some] at h ⊢
  rw [e]
  exact h


theorem wp_cut5 {P : Program} {C : Code} {Q : Exit → Act → World → Prop} {a : Act} {w : World} {A : Nat → Option Addr → Nat → Option Addr → Nat → Act} (F : Nat → Option Addr → Nat → Option Addr → Nat → World → Prop)
    (h : C.wp P (fun x a' w' => x = .normal ∧ ∃ g ao cap ao' cap', a' = A g ao cap ao' cap' ∧ F g ao cap ao' cap' w') a w) (hq : ∀ g ao cap ao' cap' w', F g ao cap ao' cap' w' → Q .normal (A g ao cap ao' cap') w') : C.wp P Q a w :=
  wp_mono h fun e a' w' ⟨he, g, ao, cap, ao', cap', ha, hF⟩ => by subst he; subst ha; exact hq g ao cap ao' cap' w' hF
theorem wp_cut3 {P : Program} {C : Code} {Q : Exit → Act → World → Prop} {a : Act} {w : World} {A : Nat → Option Addr → Nat → Act} (F : Nat → Option Addr → Nat → World → Prop)
    (h : C.wp P (fun x a' w' => x = .normal ∧ ∃ g ao cap, a' = A g ao cap ∧ F g ao cap w') a w) (hq : ∀ g ao cap w', F g ao cap w' → Q .normal (A g ao cap) w') : C.wp P Q a w :=
  wp_mono h fun e a' w' ⟨he, g, ao, cap, ha, hF⟩ => by subst he; subst ha; exact hq g ao cap w' hF
/-- A variable of three cells, read alone. -/
def LocR (w : World) (b : Nat) (x y z : Value) : Prop := w.cell? ⟨b, 0, none⟩ = some x ∧ w.cell? ⟨b, 1, none⟩ = some y ∧ w.cell? ⟨b, 2, none⟩ = some z ∧ b < w.heap.size
theorem LocR.but {w w' : World} {b lo hi : Nat} {x y z : Value} (h : LocR w b x y z) (k : But lo hi w w') (ho : b < lo ∨ hi ≤ b) : LocR w' b x y z := ⟨But.cell k h.1 ho, But.cell k h.2.1 ho, But.cell k h.2.2.1 ho, Nat.lt_of_lt_of_le h.2.2.2 k.size⟩
theorem LocR.kept {w w' : World} {b : Nat} {x y z : Value} (h : LocR w b x y z) (k : Kept w w') : LocR w' b x y z := h.but k (by omega)
set_option maxRecDepth 100000 in
set_option maxHeartbeats 16000000 in
theorem walk (c R : CloudD) (x y ev bu li sv fa : Int) (kk : Int) (jb : Bool) (v : Value) (w : World) (hT : Tab w) (hv : CloudAt w v c) (hn : c.2.2.length ≤ 9223372036854775807) (hl : c.2.2.length ≤ 1048576) (hR : R.2.2.length ≤ 100000000)
    (hS : ∀ (u : World) (v : Value), Tab u → CloudAt u v c → Calls Tryd.prog 9 #[.agg #[.int .i64 x, .int .i64 y, .int .i64 ev, .int .i64 bu, .int .i64 li, .int .i64 sv, .int .i64 fa], v, .int .i64 kk] u fun e u' => ∃ v', e = .returned (.tuple #[v', .bool jb]) ∧ CloudO u' u.heap.size u'.heap.size v' R ∧ Kept u u')
    (hI : ∀ (u : World) (v : Value), Tab u → CloudAt u v c → Calls Tryd.prog 8 #[.agg #[.int .i64 x, .int .i64 y, .int .i64 ev, .int .i64 bu, .int .i64 li, .int .i64 sv, .int .i64 fa], v, .int .i64 kk] u fun e u' => ∃ v', e = .returned (.tuple #[v', .bool jb]) ∧ CloudO u' u.heap.size u'.heap.size v' R ∧ Kept u u') :
    Calls Tryd.prog 5 #[.agg #[.int .i64 x, .int .i64 y, .int .i64 ev, .int .i64 bu, .int .i64 li, .int .i64 sv, .int .i64 fa], v, .int .i64 kk] w fun e w' => e = .returned (.bool true) ∧ Kept w w' := by
  obtain ⟨q, hq1⟩ : ∃ q, 1 + 5 * c.2.2.length = q := ⟨_, rfl⟩
  obtain ⟨q', hq2⟩ : ∃ q', 1 + 5 * R.2.2.length = q' := ⟨_, rfl⟩
  have hdq : decide ((q : Int) < 0) = false := by simp
  have hdq' : decide ((q' : Int) < 0) = false := by simp
  have HQ : Hid (1 + 5 * c.2.2.length = q) := hq1
  have HQ' : Hid (1 + 5 * R.2.2.length = q') := hq2
  clear hq1 hq2
  have hlen : c.2.2.length ≤ 1048576 := hl
  have hdl : decide ((1048576 : Int) - (c.2.2.length : Int) < 0) = false := by simp; omega
  obtain ⟨ao, cap, hfm⟩ := hv.form
  subst hfm
  have HS : Hid (∀ (u : World) (v : Value), Tab u → CloudAt u v c → Calls Tryd.prog 9 #[.agg #[.int .i64 x, .int .i64 y, .int .i64 ev, .int .i64 bu, .int .i64 li, .int .i64 sv, .int .i64 fa], v, .int .i64 kk] u fun e u' => ∃ v', e = .returned (.tuple #[v', .bool jb]) ∧ CloudO u' u.heap.size u'.heap.size v' R ∧ Kept u u') := hS
  have HI : Hid (∀ (u : World) (v : Value), Tab u → CloudAt u v c → Calls Tryd.prog 8 #[.agg #[.int .i64 x, .int .i64 y, .int .i64 ev, .int .i64 bu, .int .i64 li, .int .i64 sv, .int .i64 fa], v, .int .i64 kk] u fun e u' => ∃ v', e = .returned (.tuple #[v', .bool jb]) ∧ CloudO u' u.heap.size u'.heap.size v' R ∧ Kept u u') := hI
  clear hS hI
  go_enter Tryd.func5, Tryd.ntmps5
  repeat (first | go_values | go_skip | go_guarded | go_step | go_upon)
  go_at_call 14
  refine (szCloud c _ _ _ (hv.kept (((But.refl _ _ _).alloc _).alloc _)) (by omega) (by omega) hn).mono ?_
  rintro e u1 ⟨rfl, k1⟩
  rw [leftOf_yes (by omega)]
  have K1 : Kept w u1 := (((But.refl _ _ _).alloc _).alloc _).trans k1
  have Lt := (Loc.alloc (Loc.new w [.int .i64 x, .int .i64 y, .int .i64 ev, .int .i64 bu, .int .i64 li, .int .i64 sv, .int .i64 fa] 40) (.cells #[.int .i64 c.1, .int .i64 c.2.1, .slice ao c.2.2.length cap] 43)).kept k1
  have La := (Loc.new (w.alloc (.cells #[.int .i64 x, .int .i64 y, .int .i64 ev, .int .i64 bu, .int .i64 li, .int .i64 sv, .int .i64 fa] 40)) [.int .i64 c.1, .int .i64 c.2.1, .slice ao c.2.2.length cap] 43).kept k1
  simp only [World.size_alloc] at La
  have a0 := La.cell 0 rfl
  have a1 := La.cell 1 rfl
  have a2 := La.cell 2 rfl
  have al := La.lt
  have e0 := Lt.cell 0 rfl
  have e1 := Lt.cell 1 rfl
  have e2 := Lt.cell 2 rfl
  have e3 := Lt.cell 3 rfl
  have e4 := Lt.cell 4 rfl
  have e5 := Lt.cell 5 rfl
  have e6 := Lt.cell 6 rfl
  have el := Lt.lt
  dsimp only
  repeat (first | go_values | go_skip | go_guarded | go_step | go_upon)
  apply wp_cut5 (F := fun g _ao2 _cap2 ao3 cap3 W' => LocR W' g (.int .i64 R.1) (.int .i64 R.2.1) (.slice ao3 R.2.2.length cap3) ∧ u1.heap.size ≤ g ∧ Kept u1 W' ∧ ∃ lo hi, u1.heap.size ≤ lo ∧ (g < lo ∨ hi ≤ g) ∧ hi ≤ W'.heap.size ∧ CloudO W' lo hi (.agg #[.int .i64 R.1, .int .i64 R.2.1, .slice ao3 R.2.2.length cap3]) R)
  · go_region_held3 (fun w' => w'.cell? ⟨w.heap.size, 0, none⟩ = some (.int .i64 x) ∧ w'.cell? ⟨w.heap.size, 1, none⟩ = some (.int .i64 y) ∧ w'.cell? ⟨w.heap.size, 2, none⟩ = some (.int .i64 ev) ∧ w'.cell? ⟨w.heap.size, 3, none⟩ = some (.int .i64 bu) ∧ w'.cell? ⟨w.heap.size, 4, none⟩ = some (.int .i64 li) ∧ w'.cell? ⟨w.heap.size, 5, none⟩ = some (.int .i64 sv) ∧ w'.cell? ⟨w.heap.size, 6, none⟩ = some (.int .i64 fa) ∧ w'.cell? ⟨w.heap.size + 1, 0, none⟩ = some (.int .i64 c.1) ∧ w'.cell? ⟨w.heap.size + 1, 1, none⟩ = some (.int .i64 c.2.1) ∧ w'.cell? ⟨w.heap.size + 1, 2, none⟩ = some (.slice ao c.2.2.length cap)) (simp [go_sem, *])
      (first | (go_at_call 16; refine (toEmitter _ _ _ _ _ _ _ _).mono ?_; rintro e y2 ⟨rfl, k2⟩; have hcy2 := k2.cell_eq; have hfy2 := k2.frozen_eq; have hzy2 := k2.size; (try simp at hzy2); have n0y2 : w.heap.size < y2.heap.size := (by omega); have n1y2 : w.heap.size + 1 < y2.heap.size := (by omega); have kwy2 : Kept u1 y2 := (But.trans (by (repeat (first | with_reducible exact But.refl _ _ _ | with_reducible apply But.drewN | with_reducible apply But.drew | with_reducible apply But.alloc | (with_reducible refine But.setNew ?_ (by simp; try omega) _)))) k2); have e0y2 := Kept.cell kwy2 e0; have e1y2 := Kept.cell kwy2 e1; have e2y2 := Kept.cell kwy2 e2; have e3y2 := Kept.cell kwy2 e3; have e4y2 := Kept.cell kwy2 e4; have e5y2 := Kept.cell kwy2 e5; have e6y2 := Kept.cell kwy2 e6; have a0y2 := Kept.cell kwy2 a0; have a1y2 := Kept.cell kwy2 a1; have a2y2 := Kept.cell kwy2 a2; (try have m1y2 : u1.heap.size < y2.heap.size := (by omega)))
             | (go_at_call 17; refine (toCloud c _ _ (hv.kept (But.trans K1 (by (repeat (first | with_reducible exact kwy2 | with_reducible apply But.drewN | with_reducible apply But.drew | with_reducible apply But.alloc | (with_reducible refine But.setNew ?_ (by simp; try omega) _)))))) hlen).mono ?_; rintro e y3 ⟨v2, rfl, o2, k3⟩; obtain ⟨ao2, cap2, hfm⟩ := o2.form; subst hfm; have o2 := o2.at; have hcy3 := k3.cell_eq; have hfy3 := k3.frozen_eq; have hzy3 := k3.size; (try simp at hzy3); have n0y3 : w.heap.size < y3.heap.size := (by omega); have n1y3 : w.heap.size + 1 < y3.heap.size := (by omega); have kwy3 : Kept u1 y3 := (But.trans (by (repeat (first | with_reducible exact kwy2 | with_reducible apply But.drewN | with_reducible apply But.drew | with_reducible apply But.alloc | (with_reducible refine But.setNew ?_ (by simp; try omega) _)))) k3); have e0y3 := Kept.cell kwy3 e0; have e1y3 := Kept.cell kwy3 e1; have e2y3 := Kept.cell kwy3 e2; have e3y3 := Kept.cell kwy3 e3; have e4y3 := Kept.cell kwy3 e4; have e5y3 := Kept.cell kwy3 e5; have e6y3 := Kept.cell kwy3 e6; have a0y3 := Kept.cell kwy3 a0; have a1y3 := Kept.cell kwy3 a1; have a2y3 := Kept.cell kwy3 a2; (try have m1y3 : u1.heap.size < y3.heap.size := (by omega)); (try have m2y3 : y2.heap.size < y3.heap.size := (by omega)))
             | (go_at_call 9; refine (HS.out _ _ (hT.kept (But.trans K1 (by (repeat (first | with_reducible exact kwy3 | with_reducible apply But.drewN | with_reducible apply But.drew | with_reducible apply But.alloc | (with_reducible refine But.setNew ?_ (by simp; try omega) _)))))) (CloudAt.kept o2 (by (repeat (first | with_reducible exact But.refl _ _ _ | with_reducible apply But.drewN | with_reducible apply But.drew | with_reducible apply But.alloc | (with_reducible refine But.setNew ?_ (by simp; try omega) _)))))).mono ?_; rintro e y4 ⟨v3, rfl, o3, k4⟩; obtain ⟨ao3, cap3, hfm⟩ := o3.form; subst hfm; obtain ⟨lo4, hlo4, o3⟩ : ∃ lo, lo = _ ∧ CloudO y4 lo y4.heap.size _ R := ⟨_, rfl, o3⟩; (try simp at hlo4); have hcy4 := k4.cell_eq; have hfy4 := k4.frozen_eq; have hzy4 := k4.size; (try simp at hzy4); have n0y4 : w.heap.size < y4.heap.size := (by omega); have n1y4 : w.heap.size + 1 < y4.heap.size := (by omega); have kwy4 : Kept u1 y4 := (But.trans (by (repeat (first | with_reducible exact kwy3 | with_reducible apply But.drewN | with_reducible apply But.drew | with_reducible apply But.alloc | (with_reducible refine But.setNew ?_ (by simp; try omega) _)))) k4); have e0y4 := Kept.cell kwy4 e0; have e1y4 := Kept.cell kwy4 e1; have e2y4 := Kept.cell kwy4 e2; have e3y4 := Kept.cell kwy4 e3; have e4y4 := Kept.cell kwy4 e4; have e5y4 := Kept.cell kwy4 e5; have e6y4 := Kept.cell kwy4 e6; have a0y4 := Kept.cell kwy4 a0; have a1y4 := Kept.cell kwy4 a1; have a2y4 := Kept.cell kwy4 a2; (try have m1y4 : u1.heap.size < y4.heap.size := (by omega)); (try have m2y4 : y2.heap.size < y4.heap.size := (by omega)); (try have m3y4 : y3.heap.size < y4.heap.size := (by omega)); (try have ya0 : (y4.cell? ⟨u1.heap.size, 0, none⟩).isSome = true := (by first | (simp [go_sem, *]; done) | fail)); (try have za0 : y4.frozen? ⟨u1.heap.size, 0, none⟩ = false := (by first | (simp [go_sem, *]; done) | fail)); (try have ya1 : (y4.cell? ⟨u1.heap.size, 1, none⟩).isSome = true := (by first | (simp [go_sem, *]; done) | fail)); (try have za1 : y4.frozen? ⟨u1.heap.size, 1, none⟩ = false := (by first | (simp [go_sem, *]; done) | fail)); (try have ya2 : (y4.cell? ⟨u1.heap.size, 2, none⟩).isSome = true := (by first | (simp [go_sem, *]; done) | fail)); (try have za2 : y4.frozen? ⟨u1.heap.size, 2, none⟩ = false := (by first | (simp [go_sem, *]; done) | fail)); (try have yb0 : (y4.cell? ⟨y2.heap.size, 0, none⟩).isSome = true := (by first | (simp [go_sem, *]; done) | fail)); (try have zb0 : y4.frozen? ⟨y2.heap.size, 0, none⟩ = false := (by first | (simp [go_sem, *]; done) | fail)); (try have yb1 : (y4.cell? ⟨y2.heap.size, 1, none⟩).isSome = true := (by first | (simp [go_sem, *]; done) | fail)); (try have zb1 : y4.frozen? ⟨y2.heap.size, 1, none⟩ = false := (by first | (simp [go_sem, *]; done) | fail)); (try have yb2 : (y4.cell? ⟨y2.heap.size, 2, none⟩).isSome = true := (by first | (simp [go_sem, *]; done) | fail)); (try have zb2 : y4.frozen? ⟨y2.heap.size, 2, none⟩ = false := (by first | (simp [go_sem, *]; done) | fail)); (try have yc0 : (y4.cell? ⟨y3.heap.size, 0, none⟩).isSome = true := (by first | (simp [go_sem, *]; done) | fail)); (try have zc0 : y4.frozen? ⟨y3.heap.size, 0, none⟩ = false := (by first | (simp [go_sem, *]; done) | fail)); (try have yc1 : (y4.cell? ⟨y3.heap.size, 1, none⟩).isSome = true := (by first | (simp [go_sem, *]; done) | fail)); (try have zc1 : y4.frozen? ⟨y3.heap.size, 1, none⟩ = false := (by first | (simp [go_sem, *]; done) | fail)); (try have yc2 : (y4.cell? ⟨y3.heap.size, 2, none⟩).isSome = true := (by first | (simp [go_sem, *]; done) | fail)); (try have zc2 : y4.frozen? ⟨y3.heap.size, 2, none⟩ = false := (by first | (simp [go_sem, *]; done) | fail))))
    · obtain ⟨G, hG⟩ : ∃ G, G = y4.heap.size := ⟨_, rfl⟩
      rw [← hG]
      refine ⟨rfl, G, ao2, cap2, ao3, cap3, rfl, ?_⟩
      subst hG
      refine ⟨⟨by simp [go_sem, *], by simp [go_sem, *], by simp [go_sem, *], by simp; try omega⟩, by omega, by (repeat (first | with_reducible exact kwy4 | with_reducible apply But.drewN | with_reducible apply But.drew | with_reducible apply But.alloc | (with_reducible refine But.setNew ?_ (by simp; try omega) _))), lo4, y4.heap.size, by omega, by omega, by simp, ?_⟩
      exact CloudO.kept o3 ((But.refl _ _ _).alloc _)
    · obtain ⟨G, hG⟩ : ∃ G, G = y3.heap.size := ⟨_, rfl⟩
      rw [← hG]
      refine ⟨rfl, G, ao2, cap2, ao3, cap3, rfl, ?_⟩
      subst hG
      refine ⟨⟨by simp [go_sem, *], by simp [go_sem, *], by simp [go_sem, *], by simp; try omega⟩, by omega, by (repeat (first | with_reducible exact kwy4 | with_reducible apply But.drewN | with_reducible apply But.drew | with_reducible apply But.alloc | (with_reducible refine But.setNew ?_ (by simp; try omega) _))), lo4, y4.heap.size, by omega, by omega, by simp, ?_⟩
      exact CloudO.but (lo' := y3.heap.size) (hi' := y3.heap.size + 1) o3 ((((But.refl _ _ _).setCell (by simp) (by simp) _).setCell (by simp) (by simp) _).setCell (by simp) (by simp) _) (by omega)
    · obtain ⟨G, hG⟩ : ∃ G, G = y2.heap.size := ⟨_, rfl⟩
      rw [← hG]
      refine ⟨rfl, G, ao2, cap2, ao3, cap3, rfl, ?_⟩
      subst hG
      refine ⟨⟨by simp [go_sem, *], by simp [go_sem, *], by simp [go_sem, *], by simp; try omega⟩, by omega, by (repeat (first | with_reducible exact kwy4 | with_reducible apply But.drewN | with_reducible apply But.drew | with_reducible apply But.alloc | (with_reducible refine But.setNew ?_ (by simp; try omega) _))), lo4, y4.heap.size, by omega, by omega, by simp, ?_⟩
      exact CloudO.but (lo' := y2.heap.size) (hi' := y2.heap.size + 1) o3 ((((But.refl _ _ _).setCell (by simp) (by simp) _).setCell (by simp) (by simp) _).setCell (by simp) (by simp) _) (by omega)
    · obtain ⟨G, hG⟩ : ∃ G, G = u1.heap.size := ⟨_, rfl⟩
      rw [← hG]
      refine ⟨rfl, G, ao2, cap2, ao3, cap3, rfl, ?_⟩
      subst hG
      refine ⟨⟨by simp [go_sem, *], by simp [go_sem, *], by simp [go_sem, *], by simp; try omega⟩, by omega, by (repeat (first | with_reducible exact kwy4 | with_reducible apply But.drewN | with_reducible apply But.drew | with_reducible apply But.alloc | (with_reducible refine But.setNew ?_ (by simp; try omega) _))), lo4, y4.heap.size, by omega, by omega, by simp, ?_⟩
      exact CloudO.but (lo' := u1.heap.size) (hi' := u1.heap.size + 1) o3 ((((But.refl _ _ _).setCell (by simp) (by simp) _).setCell (by simp) (by simp) _).setCell (by simp) (by simp) _) (by omega)
  clear k1
  rintro gw _ _ ao3 cap3 u4 ⟨Lw, hgw, k4, lo3, hi3, hlo3, hg3, hhi3, o3⟩
  have s4 := k4.size
  have hgw4 := Lw.2.2.2
  have K4 := K1.trans k4
  have La := La.kept k4
  have Lt := Lt.kept k4
  have HW1 : Hid (w.heap.size + 1 < u1.heap.size) := al
  clear a0 a1 a2 al
  clear e0 e1 e2 e3 e4 e5 e6 el
  have a0 := La.cell 0 rfl
  have a1 := La.cell 1 rfl
  have a2 := La.cell 2 rfl
  have al := La.lt
  clear k4 K1
  repeat (first | go_values | go_skip | go_guarded | go_step | go_upon)
  go_at_call 17
  refine (toCloud c _ _ (hv.kept K4) hlen).mono ?_
  rintro e u5 ⟨v5, rfl, o5, k5⟩
  have K5 := K4.trans k5
  have La := La.kept k5
  have Lt := Lt.kept k5
  have Lw := Lw.kept k5
  have o3 := o3.kept k5
  have s5 := k5.size
  clear a0 a1 a2 al
  clear k5 K4
  obtain ⟨ao5, cap5, hfm⟩ := o5.form
  subst hfm
  dsimp only
  repeat (first | go_values | go_skip | go_guarded | go_step | go_upon)
  obtain ⟨x5, hx5⟩ : ∃ x, x = u5.alloc (.cells #[.int .i64 c.1, .int .i64 c.2.1, .slice ao5 c.2.2.length cap5] 27) := ⟨_, rfl⟩
  have kx : Kept u5 x5 := by rw [hx5]; exact (But.refl _ _ _).alloc _
  have Lx : Loc x5 u5.heap.size [.int .i64 c.1, .int .i64 c.2.1, .slice ao5 c.2.2.length cap5] := by rw [hx5]; exact Loc.new u5 _ 27
  have HSX : Hid (x5.heap.size = u5.heap.size + 1) := by show x5.heap.size = _; rw [hx5]; simp
  rw [← hx5]
  clear hx5
  have KX := K5.trans kx
  have La := La.kept kx
  have Lt := Lt.kept kx
  have Lw := Lw.kept kx
  have o3 := o3.kept kx
  have o5 := o5.kept kx
  have o5x := o5.at
  have b0 := Lx.cell 0 rfl
  have b1 := Lx.cell 1 rfl
  have b2 := Lx.cell 2 rfl
  have bl := Lx.lt
  have e0 := Lt.cell 0 rfl
  have e1 := Lt.cell 1 rfl
  have e2 := Lt.cell 2 rfl
  have e3 := Lt.cell 3 rfl
  have e4 := Lt.cell 4 rfl
  have e5 := Lt.cell 5 rfl
  have e6 := Lt.cell 6 rfl
  have el := Lt.lt
  have xal := La.lt
  apply wp_cut3 (F := fun g ao3 cap3 W' => LocR W' g (.int .i64 R.1) (.int .i64 R.2.1) (.slice ao3 R.2.2.length cap3) ∧ x5.heap.size ≤ g ∧ Kept x5 W' ∧ ∃ lo hi, x5.heap.size ≤ lo ∧ (g < lo ∨ hi ≤ g) ∧ hi ≤ W'.heap.size ∧ CloudO W' lo hi (.agg #[.int .i64 R.1, .int .i64 R.2.1, .slice ao3 R.2.2.length cap3]) R)
  · go_region_held3 (fun w' => w'.cell? ⟨w.heap.size, 0, none⟩ = some (.int .i64 x) ∧ w'.cell? ⟨w.heap.size, 1, none⟩ = some (.int .i64 y) ∧ w'.cell? ⟨w.heap.size, 2, none⟩ = some (.int .i64 ev) ∧ w'.cell? ⟨w.heap.size, 3, none⟩ = some (.int .i64 bu) ∧ w'.cell? ⟨w.heap.size, 4, none⟩ = some (.int .i64 li) ∧ w'.cell? ⟨w.heap.size, 5, none⟩ = some (.int .i64 sv) ∧ w'.cell? ⟨w.heap.size, 6, none⟩ = some (.int .i64 fa) ∧ w'.cell? ⟨u5.heap.size, 0, none⟩ = some (.int .i64 c.1) ∧ w'.cell? ⟨u5.heap.size, 1, none⟩ = some (.int .i64 c.2.1) ∧ w'.cell? ⟨u5.heap.size, 2, none⟩ = some (.slice ao5 c.2.2.length cap5)) (simp [go_sem, *])
      (first | (go_at_call 16; refine (toEmitter _ _ _ _ _ _ _ _).mono ?_; rintro e y2 ⟨rfl, k2⟩; have hcy2 := k2.cell_eq; have hfy2 := k2.frozen_eq; have hzy2 := k2.size; (try simp at hzy2); have n0y2 : w.heap.size < y2.heap.size := (by omega); have n1y2 : w.heap.size + 1 < y2.heap.size := (by omega); have n2y2 : u5.heap.size < y2.heap.size := (by omega); have kwy2 : Kept x5 y2 := (But.trans (by (repeat (first | with_reducible exact But.refl _ _ _ | with_reducible apply But.drewN | with_reducible apply But.drew | with_reducible apply But.alloc | (with_reducible refine But.setNew ?_ (by simp; try omega) _)))) k2); have e0y2 := Kept.cell kwy2 e0; have e1y2 := Kept.cell kwy2 e1; have e2y2 := Kept.cell kwy2 e2; have e3y2 := Kept.cell kwy2 e3; have e4y2 := Kept.cell kwy2 e4; have e5y2 := Kept.cell kwy2 e5; have e6y2 := Kept.cell kwy2 e6; have b0y2 := Kept.cell kwy2 b0; have b1y2 := Kept.cell kwy2 b1; have b2y2 := Kept.cell kwy2 b2; (try have m1y2 : x5.heap.size < y2.heap.size := (by omega)))
             | (go_at_call 8; refine (HI.out _ _ (hT.kept (But.trans KX (by (repeat (first | with_reducible exact kwy2 | with_reducible apply But.drewN | with_reducible apply But.drew | with_reducible apply But.alloc | (with_reducible refine But.setNew ?_ (by simp; try omega) _)))))) (CloudAt.kept o5x (by (repeat (first | with_reducible exact kwy2 | with_reducible apply But.drewN | with_reducible apply But.drew | with_reducible apply But.alloc | (with_reducible refine But.setNew ?_ (by simp; try omega) _)))))).mono ?_; rintro e y4 ⟨v3, rfl, o3, k4⟩; obtain ⟨ao3, cap3, hfm⟩ := o3.form; subst hfm; obtain ⟨lo4, hlo4, o3⟩ : ∃ lo, lo = _ ∧ CloudO y4 lo y4.heap.size _ R := ⟨_, rfl, o3⟩; (try simp at hlo4); have hcy4 := k4.cell_eq; have hfy4 := k4.frozen_eq; have hzy4 := k4.size; (try simp at hzy4); have n0y4 : w.heap.size < y4.heap.size := (by omega); have n1y4 : w.heap.size + 1 < y4.heap.size := (by omega); have n2y4 : u5.heap.size < y4.heap.size := (by omega); have kwy4 : Kept x5 y4 := (But.trans (by (repeat (first | with_reducible exact kwy2 | with_reducible apply But.drewN | with_reducible apply But.drew | with_reducible apply But.alloc | (with_reducible refine But.setNew ?_ (by simp; try omega) _)))) k4); have e0y4 := Kept.cell kwy4 e0; have e1y4 := Kept.cell kwy4 e1; have e2y4 := Kept.cell kwy4 e2; have e3y4 := Kept.cell kwy4 e3; have e4y4 := Kept.cell kwy4 e4; have e5y4 := Kept.cell kwy4 e5; have e6y4 := Kept.cell kwy4 e6; have b0y4 := Kept.cell kwy4 b0; have b1y4 := Kept.cell kwy4 b1; have b2y4 := Kept.cell kwy4 b2; (try have m1y4 : x5.heap.size < y4.heap.size := (by omega)); (try have m2y4 : y2.heap.size < y4.heap.size := (by omega)); (try have ya0 : (y4.cell? ⟨x5.heap.size, 0, none⟩).isSome = true := (by first | (simp [go_sem, *]; done) | fail)); (try have za0 : y4.frozen? ⟨x5.heap.size, 0, none⟩ = false := (by first | (simp [go_sem, *]; done) | fail)); (try have ya1 : (y4.cell? ⟨x5.heap.size, 1, none⟩).isSome = true := (by first | (simp [go_sem, *]; done) | fail)); (try have za1 : y4.frozen? ⟨x5.heap.size, 1, none⟩ = false := (by first | (simp [go_sem, *]; done) | fail)); (try have ya2 : (y4.cell? ⟨x5.heap.size, 2, none⟩).isSome = true := (by first | (simp [go_sem, *]; done) | fail)); (try have za2 : y4.frozen? ⟨x5.heap.size, 2, none⟩ = false := (by first | (simp [go_sem, *]; done) | fail)); (try have yb0 : (y4.cell? ⟨y2.heap.size, 0, none⟩).isSome = true := (by first | (simp [go_sem, *]; done) | fail)); (try have zb0 : y4.frozen? ⟨y2.heap.size, 0, none⟩ = false := (by first | (simp [go_sem, *]; done) | fail)); (try have yb1 : (y4.cell? ⟨y2.heap.size, 1, none⟩).isSome = true := (by first | (simp [go_sem, *]; done) | fail)); (try have zb1 : y4.frozen? ⟨y2.heap.size, 1, none⟩ = false := (by first | (simp [go_sem, *]; done) | fail)); (try have yb2 : (y4.cell? ⟨y2.heap.size, 2, none⟩).isSome = true := (by first | (simp [go_sem, *]; done) | fail)); (try have zb2 : y4.frozen? ⟨y2.heap.size, 2, none⟩ = false := (by first | (simp [go_sem, *]; done) | fail))))
    · obtain ⟨G, hG⟩ : ∃ G, G = y4.heap.size := ⟨_, rfl⟩
      rw [← hG]
      refine ⟨rfl, G, ao3, cap3, rfl, ?_⟩
      subst hG
      refine ⟨⟨by simp [go_sem, *], by simp [go_sem, *], by simp [go_sem, *], by simp; try omega⟩, by omega, by (repeat (first | with_reducible exact kwy4 | with_reducible apply But.drewN | with_reducible apply But.drew | with_reducible apply But.alloc | (with_reducible refine But.setNew ?_ (by simp; try omega) _))), lo4, y4.heap.size, by omega, by omega, by simp, ?_⟩
      exact CloudO.kept o3 ((But.refl _ _ _).alloc _)
    · obtain ⟨G, hG⟩ : ∃ G, G = y2.heap.size := ⟨_, rfl⟩
      rw [← hG]
      refine ⟨rfl, G, ao3, cap3, rfl, ?_⟩
      subst hG
      refine ⟨⟨by simp [go_sem, *], by simp [go_sem, *], by simp [go_sem, *], by simp; try omega⟩, by omega, by (repeat (first | with_reducible exact kwy4 | with_reducible apply But.drewN | with_reducible apply But.drew | with_reducible apply But.alloc | (with_reducible refine But.setNew ?_ (by simp; try omega) _))), lo4, y4.heap.size, by omega, by omega, by simp, ?_⟩
      exact CloudO.but (lo' := y2.heap.size) (hi' := y2.heap.size + 1) o3 ((((But.refl _ _ _).setCell (by simp) (by simp) _).setCell (by simp) (by simp) _).setCell (by simp) (by simp) _) (by omega)
    · obtain ⟨G, hG⟩ : ∃ G, G = x5.heap.size := ⟨_, rfl⟩
      rw [← hG]
      refine ⟨rfl, G, ao3, cap3, rfl, ?_⟩
      subst hG
      refine ⟨⟨by simp [go_sem, *], by simp [go_sem, *], by simp [go_sem, *], by simp; try omega⟩, by omega, by (repeat (first | with_reducible exact kwy4 | with_reducible apply But.drewN | with_reducible apply But.drew | with_reducible apply But.alloc | (with_reducible refine But.setNew ?_ (by simp; try omega) _))), lo4, y4.heap.size, by omega, by omega, by simp, ?_⟩
      exact CloudO.but (lo' := x5.heap.size) (hi' := x5.heap.size + 1) o3 ((((But.refl _ _ _).setCell (by simp) (by simp) _).setCell (by simp) (by simp) _).setCell (by simp) (by simp) _) (by omega)
  rintro gg ao7 cap7 u7 ⟨Lg, hgg, k7, lo7, hi7, hlo7, hg7, hhi7, o7⟩
  have s7 := k7.size
  have sx := HSX.out
  have K7 := KX.trans k7
  have La := La.kept k7
  have Lt := Lt.kept k7
  have Lw := Lw.kept k7
  have Lx := Lx.kept k7
  have o3 := o3.kept k7
  have o5 := o5.kept k7
  clear b0 b1 b2 bl
  clear e0 e1 e2 e3 e4 e5 e6 el
  clear k7 kx KX K5 o5x xal
  have b0 := Lw.1
  have b1 := Lw.2.1
  have b2 := Lw.2.2.1
  have bl := Lw.2.2.2
  have g0 := Lg.1
  have g1 := Lg.2.1
  have g2 := Lg.2.2.1
  have gl := Lg.2.2.2
  repeat (first | go_values | go_skip | go_guarded | go_step | go_upon)
  go_at_call 19
  refine (eqCloud R _ _ _ o7.at o3.at (by omega)).mono ?_
  rintro e u6 ⟨rfl, k6⟩
  have K6 := K7.trans k6
  have La := La.kept k6
  have Lt := Lt.kept k6
  have Lw := Lw.kept k6
  have Lx := Lx.kept k6
  have Lg := Lg.kept k6
  have o3 := o3.kept k6
  have o5 := o5.kept k6
  have o7 := o7.kept k6
  have s6 := k6.size
  clear b0 b1 b2 bl g0 g1 g2 gl
  clear k6 K7
  have a0 := La.cell 0 rfl
  have a1 := La.cell 1 rfl
  have a2 := La.cell 2 rfl
  have al := La.lt
  have b0 := Lx.cell 0 rfl
  have b1 := Lx.cell 1 rfl
  have b2 := Lx.cell 2 rfl
  have bl := Lx.lt
  dsimp only
  repeat (first | go_values | go_skip | go_guarded | go_step | go_upon)
  go_region_held3 (fun w' => w'.cell? ⟨w.heap.size + 1, 0, none⟩ = some (.int .i64 c.1) ∧ w'.cell? ⟨w.heap.size + 1, 1, none⟩ = some (.int .i64 c.2.1) ∧ w'.cell? ⟨w.heap.size + 1, 2, none⟩ = some (.slice ao c.2.2.length cap) ∧ w'.cell? ⟨u5.heap.size, 0, none⟩ = some (.int .i64 c.1) ∧ w'.cell? ⟨u5.heap.size, 1, none⟩ = some (.int .i64 c.2.1) ∧ w'.cell? ⟨u5.heap.size, 2, none⟩ = some (.slice ao5 c.2.2.length cap5)) (simp [go_sem, *])
    (first | (go_at_call 17; refine (toCloud c _ _ (hv.kept K6.drew) hlen).mono ?_; rintro e u9 ⟨v9, rfl, o9, k9⟩; have j9 : Kept u6 u9 := ((But.refl _ _ u6).drew).trans k9; obtain ⟨ao9, cap9, hfm⟩ := o9.form; subst hfm; have a0 := Kept.cell k9 a0; have a1 := Kept.cell k9 a1; have a2 := Kept.cell k9 a2; have b0 := Kept.cell k9 b0; have b1 := Kept.cell k9 b1; have b2 := Kept.cell k9 b2)
           | (go_at_call 19; refine (eqCloud c _ _ _ (o5.at.kept j9) o9.at (by omega)).mono ?_; rintro e u8 ⟨rfl, k8⟩; have a0 := Kept.cell k8 a0; have a1 := Kept.cell k8 a1; have a2 := Kept.cell k8 a2; have b0 := Kept.cell k8 b0; have b1 := Kept.cell k8 b1; have b2 := Kept.cell k8 b2))
  all_goals
    have j8 : Kept u6 u8 := j9.trans k8
    have K8 := K6.trans j8
    have La := La.kept j8
    have Lt := Lt.kept j8
    have Lw := Lw.kept j8
    have Lx := Lx.kept j8
    have Lg := Lg.kept j8
    have o3 := o3.kept j8
    have o5 := o5.kept j8
    have o7 := o7.kept j8
    have s8 := j8.size
    have hWL := HW1.out
    clear j9 j8 k9 k8 o9 a0 a1 a2 al b0 b1 b2 bl K6
    have b0 := Lx.cell 0 rfl
    have b1 := Lx.cell 1 rfl
    have b2 := Lx.cell 2 rfl
    have bl := Lx.lt
    repeat (first | go_values | go_skip | go_guarded | go_step | go_upon)
    go_at_call 20
    refine (markCloud c _ 1 u4.heap.size u5.heap.size _ o5 (by omega)).mono ?_
    rintro e u9 ⟨rfl, -, k9⟩
    rw [HQ.out]
    have K9 := K8.onto k9 (by omega)
    have La := La.but k9 (by omega)
    have Lt := Lt.but k9 (by omega)
    have Lw := Lw.but k9 (by omega)
    have Lg := Lg.but k9 (by omega)
    have o3 := o3.but k9 (by omega)
    have o7 := o7.but k9 (by omega)
    have s9 := k9.size
    clear k9 K8 o5 Lx b0 b1 b2 bl
    have b0 := Lw.1
    have b1 := Lw.2.1
    have b2 := Lw.2.2.1
    have bl := Lw.2.2.2
    have g0 := Lg.1
    have g1 := Lg.2.1
    have g2 := Lg.2.2.1
    have gl := Lg.2.2.2
    dsimp only
    repeat (first | go_values | go_skip | go_guarded | go_step | go_upon)
    go_at_call 19
    refine (eqCloud R _ _ _ o7.at o3.at (by omega)).mono ?_
    rintro e u10 ⟨rfl, k10⟩
    have K10 := K9.trans k10
    have La := La.kept k10
    have Lt := Lt.kept k10
    have Lw := Lw.kept k10
    have Lg := Lg.kept k10
    have o3 := o3.kept k10
    have o7 := o7.kept k10
    have s10 := k10.size
    clear k10 K9
    clear b0 b1 b2 bl g0 g1 g2 gl
    have g0 := Lg.1
    have g1 := Lg.2.1
    have g2 := Lg.2.2.1
    have gl := Lg.2.2.2
    dsimp only
    repeat (first | go_values | go_skip | go_guarded | go_step | go_upon)
    go_at_call 20
    refine (markCloud R _ 1 lo7 hi7 _ o7 (by omega)).mono ?_
    rintro e u11 ⟨rfl, o11, k11⟩
    rw [HQ'.out]
    have K11 := K10.onto k11 (by omega)
    have La := La.but k11 (by omega)
    have Lt := Lt.but k11 (by omega)
    have Lw := Lw.but k11 (by omega)
    have Lg := Lg.but k11 (by omega)
    have o3 := o3.but k11 (by omega)
    have s11 := k11.size
    clear k11 K10 o7
    clear g0 g1 g2 gl
    have g0 := Lg.1
    have g1 := Lg.2.1
    have g2 := Lg.2.2.1
    have gl := Lg.2.2.2
    dsimp only
    repeat (first | go_values | go_skip | go_guarded | go_step | go_upon)
    go_at_call 21
    refine (heldCloud R.1 R.2.1 R.2.2.length _ 1 _ o11.at (by omega)).mono ?_
    rintro e u12 ⟨rfl, k12⟩
    rw [HQ'.out]
    have K12 := K11.trans k12
    have La := La.kept k12
    have Lt := Lt.kept k12
    have Lw := Lw.kept k12
    have Lg := Lg.kept k12
    have o3 := o3.kept k12
    have o11 := o11.kept k12
    have s12 := k12.size
    clear k12 K11
    clear g0 g1 g2 gl
    have a0 := La.cell 0 rfl
    have a1 := La.cell 1 rfl
    have a2 := La.cell 2 rfl
    have al := La.lt
    have e0 := Lt.cell 0 rfl
    have e1 := Lt.cell 1 rfl
    have e2 := Lt.cell 2 rfl
    have e3 := Lt.cell 3 rfl
    have e4 := Lt.cell 4 rfl
    have e5 := Lt.cell 5 rfl
    have e6 := Lt.cell 6 rfl
    have el := Lt.lt
    dsimp only
    repeat (first | go_values | go_skip | go_guarded | go_step | go_upon)
    apply wp_cut5 (F := fun g _ao2 _cap2 ao3 cap3 W' => LocR W' g (.int .i64 R.1) (.int .i64 R.2.1) (.slice ao3 R.2.2.length cap3) ∧ u12.heap.size ≤ g ∧ Kept u12 W' ∧ ∃ lo hi, u12.heap.size ≤ lo ∧ (g < lo ∨ hi ≤ g) ∧ hi ≤ W'.heap.size ∧ CloudO W' lo hi (.agg #[.int .i64 R.1, .int .i64 R.2.1, .slice ao3 R.2.2.length cap3]) R)
    · go_region_held3 (fun w' => w'.cell? ⟨w.heap.size, 0, none⟩ = some (.int .i64 x) ∧ w'.cell? ⟨w.heap.size, 1, none⟩ = some (.int .i64 y) ∧ w'.cell? ⟨w.heap.size, 2, none⟩ = some (.int .i64 ev) ∧ w'.cell? ⟨w.heap.size, 3, none⟩ = some (.int .i64 bu) ∧ w'.cell? ⟨w.heap.size, 4, none⟩ = some (.int .i64 li) ∧ w'.cell? ⟨w.heap.size, 5, none⟩ = some (.int .i64 sv) ∧ w'.cell? ⟨w.heap.size, 6, none⟩ = some (.int .i64 fa) ∧ w'.cell? ⟨w.heap.size + 1, 0, none⟩ = some (.int .i64 c.1) ∧ w'.cell? ⟨w.heap.size + 1, 1, none⟩ = some (.int .i64 c.2.1) ∧ w'.cell? ⟨w.heap.size + 1, 2, none⟩ = some (.slice ao c.2.2.length cap)) (simp [go_sem, *])
        (first | (go_at_call 16; refine (toEmitter _ _ _ _ _ _ _ _).mono ?_; rintro e y2 ⟨rfl, k2⟩; have hcy2 := k2.cell_eq; have hfy2 := k2.frozen_eq; have hzy2 := k2.size; (try simp at hzy2); have n0y2 : w.heap.size < y2.heap.size := (by omega); have n1y2 : w.heap.size + 1 < y2.heap.size := (by omega); have kwy2 : Kept u12 y2 := (But.trans (by (repeat (first | with_reducible exact But.refl _ _ _ | with_reducible apply But.drewN | with_reducible apply But.drew | with_reducible apply But.alloc | (with_reducible refine But.setNew ?_ (by simp; try omega) _)))) k2); have e0y2 := Kept.cell kwy2 e0; have e1y2 := Kept.cell kwy2 e1; have e2y2 := Kept.cell kwy2 e2; have e3y2 := Kept.cell kwy2 e3; have e4y2 := Kept.cell kwy2 e4; have e5y2 := Kept.cell kwy2 e5; have e6y2 := Kept.cell kwy2 e6; have a0y2 := Kept.cell kwy2 a0; have a1y2 := Kept.cell kwy2 a1; have a2y2 := Kept.cell kwy2 a2; (try have m1y2 : u12.heap.size < y2.heap.size := (by omega)))
               | (go_at_call 17; refine (toCloud c _ _ (hv.kept (But.trans K12 (by (repeat (first | with_reducible exact kwy2 | with_reducible apply But.drewN | with_reducible apply But.drew | with_reducible apply But.alloc | (with_reducible refine But.setNew ?_ (by simp; try omega) _)))))) hlen).mono ?_; rintro e y3 ⟨v2, rfl, o2, k3⟩; obtain ⟨ao2, cap2, hfm⟩ := o2.form; subst hfm; have o2 := o2.at; have hcy3 := k3.cell_eq; have hfy3 := k3.frozen_eq; have hzy3 := k3.size; (try simp at hzy3); have n0y3 : w.heap.size < y3.heap.size := (by omega); have n1y3 : w.heap.size + 1 < y3.heap.size := (by omega); have kwy3 : Kept u12 y3 := (But.trans (by (repeat (first | with_reducible exact kwy2 | with_reducible apply But.drewN | with_reducible apply But.drew | with_reducible apply But.alloc | (with_reducible refine But.setNew ?_ (by simp; try omega) _)))) k3); have e0y3 := Kept.cell kwy3 e0; have e1y3 := Kept.cell kwy3 e1; have e2y3 := Kept.cell kwy3 e2; have e3y3 := Kept.cell kwy3 e3; have e4y3 := Kept.cell kwy3 e4; have e5y3 := Kept.cell kwy3 e5; have e6y3 := Kept.cell kwy3 e6; have a0y3 := Kept.cell kwy3 a0; have a1y3 := Kept.cell kwy3 a1; have a2y3 := Kept.cell kwy3 a2; (try have m1y3 : u12.heap.size < y3.heap.size := (by omega)); (try have m2y3 : y2.heap.size < y3.heap.size := (by omega)))
               | (go_at_call 8; refine (HI.out _ _ (hT.kept (But.trans K12 (by (repeat (first | with_reducible exact kwy3 | with_reducible apply But.drewN | with_reducible apply But.drew | with_reducible apply But.alloc | (with_reducible refine But.setNew ?_ (by simp; try omega) _)))))) (CloudAt.kept o2 (by (repeat (first | with_reducible exact But.refl _ _ _ | with_reducible apply But.drewN | with_reducible apply But.drew | with_reducible apply But.alloc | (with_reducible refine But.setNew ?_ (by simp; try omega) _)))))).mono ?_; rintro e y4 ⟨v3, rfl, o3, k4⟩; obtain ⟨ao3, cap3, hfm⟩ := o3.form; subst hfm; obtain ⟨lo4, hlo4, o3⟩ : ∃ lo, lo = _ ∧ CloudO y4 lo y4.heap.size _ R := ⟨_, rfl, o3⟩; (try simp at hlo4); have hcy4 := k4.cell_eq; have hfy4 := k4.frozen_eq; have hzy4 := k4.size; (try simp at hzy4); have n0y4 : w.heap.size < y4.heap.size := (by omega); have n1y4 : w.heap.size + 1 < y4.heap.size := (by omega); have kwy4 : Kept u12 y4 := (But.trans (by (repeat (first | with_reducible exact kwy3 | with_reducible apply But.drewN | with_reducible apply But.drew | with_reducible apply But.alloc | (with_reducible refine But.setNew ?_ (by simp; try omega) _)))) k4); have e0y4 := Kept.cell kwy4 e0; have e1y4 := Kept.cell kwy4 e1; have e2y4 := Kept.cell kwy4 e2; have e3y4 := Kept.cell kwy4 e3; have e4y4 := Kept.cell kwy4 e4; have e5y4 := Kept.cell kwy4 e5; have e6y4 := Kept.cell kwy4 e6; have a0y4 := Kept.cell kwy4 a0; have a1y4 := Kept.cell kwy4 a1; have a2y4 := Kept.cell kwy4 a2; (try have m1y4 : u12.heap.size < y4.heap.size := (by omega)); (try have m2y4 : y2.heap.size < y4.heap.size := (by omega)); (try have m3y4 : y3.heap.size < y4.heap.size := (by omega)); (try have ya0 : (y4.cell? ⟨u12.heap.size, 0, none⟩).isSome = true := (by first | (simp [go_sem, *]; done) | fail)); (try have za0 : y4.frozen? ⟨u12.heap.size, 0, none⟩ = false := (by first | (simp [go_sem, *]; done) | fail)); (try have ya1 : (y4.cell? ⟨u12.heap.size, 1, none⟩).isSome = true := (by first | (simp [go_sem, *]; done) | fail)); (try have za1 : y4.frozen? ⟨u12.heap.size, 1, none⟩ = false := (by first | (simp [go_sem, *]; done) | fail)); (try have ya2 : (y4.cell? ⟨u12.heap.size, 2, none⟩).isSome = true := (by first | (simp [go_sem, *]; done) | fail)); (try have za2 : y4.frozen? ⟨u12.heap.size, 2, none⟩ = false := (by first | (simp [go_sem, *]; done) | fail)); (try have yb0 : (y4.cell? ⟨y2.heap.size, 0, none⟩).isSome = true := (by first | (simp [go_sem, *]; done) | fail)); (try have zb0 : y4.frozen? ⟨y2.heap.size, 0, none⟩ = false := (by first | (simp [go_sem, *]; done) | fail)); (try have yb1 : (y4.cell? ⟨y2.heap.size, 1, none⟩).isSome = true := (by first | (simp [go_sem, *]; done) | fail)); (try have zb1 : y4.frozen? ⟨y2.heap.size, 1, none⟩ = false := (by first | (simp [go_sem, *]; done) | fail)); (try have yb2 : (y4.cell? ⟨y2.heap.size, 2, none⟩).isSome = true := (by first | (simp [go_sem, *]; done) | fail)); (try have zb2 : y4.frozen? ⟨y2.heap.size, 2, none⟩ = false := (by first | (simp [go_sem, *]; done) | fail)); (try have yc0 : (y4.cell? ⟨y3.heap.size, 0, none⟩).isSome = true := (by first | (simp [go_sem, *]; done) | fail)); (try have zc0 : y4.frozen? ⟨y3.heap.size, 0, none⟩ = false := (by first | (simp [go_sem, *]; done) | fail)); (try have yc1 : (y4.cell? ⟨y3.heap.size, 1, none⟩).isSome = true := (by first | (simp [go_sem, *]; done) | fail)); (try have zc1 : y4.frozen? ⟨y3.heap.size, 1, none⟩ = false := (by first | (simp [go_sem, *]; done) | fail)); (try have yc2 : (y4.cell? ⟨y3.heap.size, 2, none⟩).isSome = true := (by first | (simp [go_sem, *]; done) | fail)); (try have zc2 : y4.frozen? ⟨y3.heap.size, 2, none⟩ = false := (by first | (simp [go_sem, *]; done) | fail))))
      · obtain ⟨G, hG⟩ : ∃ G, G = y4.heap.size := ⟨_, rfl⟩
        rw [← hG]
        refine ⟨rfl, G, ao2, cap2, ao3, cap3, rfl, ?_⟩
        subst hG
        refine ⟨⟨by simp [go_sem, *], by simp [go_sem, *], by simp [go_sem, *], by simp; try omega⟩, by omega, by (repeat (first | with_reducible exact kwy4 | with_reducible apply But.drewN | with_reducible apply But.drew | with_reducible apply But.alloc | (with_reducible refine But.setNew ?_ (by simp; try omega) _))), lo4, y4.heap.size, by omega, by omega, by simp, ?_⟩
        exact CloudO.kept o3 ((But.refl _ _ _).alloc _)
      · obtain ⟨G, hG⟩ : ∃ G, G = y3.heap.size := ⟨_, rfl⟩
        rw [← hG]
        refine ⟨rfl, G, ao2, cap2, ao3, cap3, rfl, ?_⟩
        subst hG
        refine ⟨⟨by simp [go_sem, *], by simp [go_sem, *], by simp [go_sem, *], by simp; try omega⟩, by omega, by (repeat (first | with_reducible exact kwy4 | with_reducible apply But.drewN | with_reducible apply But.drew | with_reducible apply But.alloc | (with_reducible refine But.setNew ?_ (by simp; try omega) _))), lo4, y4.heap.size, by omega, by omega, by simp, ?_⟩
        exact CloudO.but (lo' := y3.heap.size) (hi' := y3.heap.size + 1) o3 ((((But.refl _ _ _).setCell (by simp) (by simp) _).setCell (by simp) (by simp) _).setCell (by simp) (by simp) _) (by omega)
      · obtain ⟨G, hG⟩ : ∃ G, G = y2.heap.size := ⟨_, rfl⟩
        rw [← hG]
        refine ⟨rfl, G, ao2, cap2, ao3, cap3, rfl, ?_⟩
        subst hG
        refine ⟨⟨by simp [go_sem, *], by simp [go_sem, *], by simp [go_sem, *], by simp; try omega⟩, by omega, by (repeat (first | with_reducible exact kwy4 | with_reducible apply But.drewN | with_reducible apply But.drew | with_reducible apply But.alloc | (with_reducible refine But.setNew ?_ (by simp; try omega) _))), lo4, y4.heap.size, by omega, by omega, by simp, ?_⟩
        exact CloudO.but (lo' := y2.heap.size) (hi' := y2.heap.size + 1) o3 ((((But.refl _ _ _).setCell (by simp) (by simp) _).setCell (by simp) (by simp) _).setCell (by simp) (by simp) _) (by omega)
      · obtain ⟨G, hG⟩ : ∃ G, G = u12.heap.size := ⟨_, rfl⟩
        rw [← hG]
        refine ⟨rfl, G, ao2, cap2, ao3, cap3, rfl, ?_⟩
        subst hG
        refine ⟨⟨by simp [go_sem, *], by simp [go_sem, *], by simp [go_sem, *], by simp; try omega⟩, by omega, by (repeat (first | with_reducible exact kwy4 | with_reducible apply But.drewN | with_reducible apply But.drew | with_reducible apply But.alloc | (with_reducible refine But.setNew ?_ (by simp; try omega) _))), lo4, y4.heap.size, by omega, by omega, by simp, ?_⟩
        exact CloudO.but (lo' := u12.heap.size) (hi' := u12.heap.size + 1) o3 ((((But.refl _ _ _).setCell (by simp) (by simp) _).setCell (by simp) (by simp) _).setCell (by simp) (by simp) _) (by omega)
    rintro gh _ _ ao14 cap14 u14 ⟨Lh, hgh, k14, lo14, hi14, hlo14, hg14, hhi14, o14⟩
    have K14 := K12.trans k14
    have Lw := Lw.kept k14
    have Lg := Lg.kept k14
    have o3 := o3.kept k14
    have o11 := o11.kept k14
    clear a0 a1 a2 al
    clear e0 e1 e2 e3 e4 e5 e6 el
    clear k14 K12 La Lt
    have b0 := Lw.1
    have b1 := Lw.2.1
    have b2 := Lw.2.2.1
    have bl := Lw.2.2.2
    have h0 := Lh.1
    have h1 := Lh.2.1
    have h2 := Lh.2.2.1
    have hl := Lh.2.2.2
    repeat (first | go_values | go_skip | go_guarded | go_step | go_upon)
    go_at_call 19
    refine (eqCloud R _ _ _ o14.at o3.at (by omega)).mono ?_
    rintro e u15 ⟨rfl, k15⟩
    have K15 := K14.trans k15
    have Lg := Lg.kept k15
    have o11 := o11.kept k15
    clear k15 K14 o14
    clear b0 b1 b2 bl h0 h1 h2 hl
    have g0 := Lg.1
    have g1 := Lg.2.1
    have g2 := Lg.2.2.1
    have gl := Lg.2.2.2
    dsimp only
    repeat (first | go_values | go_skip | go_guarded | go_step | go_upon)
    go_at_call 21
    refine (heldCloud R.1 R.2.1 R.2.2.length _ 1 _ o11.at (by omega)).mono ?_
    rintro e u16 ⟨rfl, k16⟩
    rw [HQ'.out]
    have K16 := K15.trans k16
    dsimp only
    repeat (first | go_values | go_skip | go_guarded | go_step | go_upon)
    go_ret
    exact ⟨rfl, K16⟩

set_option maxRecDepth 100000 in
set_option maxHeartbeats 1000000 in
theorem big (c : CloudD) (x y ev bu li sv fa : Int) (kk : Int) (v : Value) (w : World) (hv : CloudAt w v c) (hn : c.2.2.length ≤ 9223372036854775807) (hl : 1048576 < c.2.2.length) :
    Calls Tryd.prog 5 #[.agg #[.int .i64 x, .int .i64 y, .int .i64 ev, .int .i64 bu, .int .i64 li, .int .i64 sv, .int .i64 fa], v, .int .i64 kk] w fun e w' => e = .returned (.bool true) ∧ Kept w w' := by
  obtain ⟨ao, cap, hfm⟩ := hv.form
  subst hfm
  go_enter Tryd.func5, Tryd.ntmps5
  repeat (first | go_values | go_skip | go_guarded | go_step | go_upon)
  go_at_call 14
  refine (szCloud c _ _ _ (hv.kept (((But.refl _ _ _).alloc _).alloc _)) (by omega) (by omega) hn).mono ?_
  rintro e u1 ⟨rfl, k1⟩
  rw [leftOf_no (by omega)]
  dsimp only
  repeat (first | go_values | go_skip | go_guarded | go_step | go_upon)
  go_ret
  exact ⟨rfl, (((But.refl _ _ _).alloc _).alloc _).trans k1⟩

theorem all (p : EmitterD) (c : CloudD) (v : Value) {w : World} (hv : CloudAt w v c) (hm : c.2.2.length ≤ maxLen) (kk : Int) (hT : Tab w) :
    Calls Tryd.prog 5 #[.agg (emitterC p).toArray, v, .int .i64 kk] w fun e w' => e = .returned (.bool true) ∧ Kept w w' := by
  obtain ⟨x, y, ev, bu, li, sv, fa⟩ := p
  have hm' : c.2.2.length ≤ 9223372036854775807 := by unfold maxLen at hm; omega
  have hl := runA_len (x, y, ev, bu, li, sv, fa) c kk
  by_cases hc : c.2.2.length ≤ 1048576
  · refine walk c (runA (x, y, ev, bu, li, sv, fa) c kk).1 x y ev bu li sv fa kk (runA (x, y, ev, bu, li, sv, fa) c kk).2 v w hT hv hm' hc (by omega) (fun u v hT h => ?_) (fun u v hT h => ?_)
    · obtain ⟨ao, cap, hf⟩ := h.form
      subst hf
      exact srun x y ev bu li sv fa c.1 c.2.1 kk c.2.2 ao cap u hT h.row hc
    · obtain ⟨ao, cap, hf⟩ := h.form
      subst hf
      exact irun x y ev bu li sv fa c.1 c.2.1 kk c.2.2 ao cap u hT h.row hc
  · exact big c x y ev bu li sv fa kk v w hv hm' (by omega)


set_option maxRecDepth 100000 in
theorem lifted (os : Os) (started : os.Started) (H : Type) (enc : TypeId × Value → H) :
    ReturnsInHanded {} Tryd.checked os 5 .any (fun w args => (Rows.fnExactRunCloudSpec.pre enc Tryd.prog Tryd.f5 [] false w args ∧ laidMetH Tryd.prog laid1 w) ∧ sizedMet enc Tryd.prog Tryd.f5 (OpenSpec.ofChange Rows.fnExactRunCloudSpec) false w args)
      (Rows.fnExactRunCloudSpec.post enc Tryd.prog Tryd.f5 false true false false) := by
  refine returnsInHanded_of_change_and (C := Tryd.checked) (X := fun w _ => laidMetH Tryd.prog laid1 w) (fun _ _ _ hh h => h.of_heap hh) own started (by kernel_rfl) Tryd.func5
    (ChangeSpec.witness_shaped (enc := enc) (C := Tryd.checked) (os := os) (X := fun w _ => laidMetH Tryd.prog laid1 w) false (World.doorLaid Tryd.prog 400 os) #[.agg #[.int .i64 0, .int .i64 0, .int .i64 0, .int .i64 0, .int .i64 0, .int .i64 0, .int .i64 0], .agg #[.int .i64 0, .int .i64 0, .slice none 0 0], .int .i64 0] 8 rfl (World.shaped_of_RefB (by kernel_rfl) (by kernel_rfl)) (by kernel_rfl) (by kernel_rfl) (by kernel_rfl) (door_met os _)) ?_
  intro W base args ds gs before hval0 hW _ _ hL _
  have hval : ∀ (j : Nat) t v, Tryd.f5.params[j]? = some t → args[j]? = some v → Value.okWide Tryd.prog W .any base t v := hval0
  have hW' := hW
  obtain ⟨p, q, hA0, hV0, rfl, hfz, hnd⟩ := hW
  have hA : DataW.TrodAll enc Tryd.prog W 0 (fun _ => true) true Tryd.f5.params.toList args.toList ds p := hA0
  have hV : DataW.TrodVars enc Tryd.prog W (fun _ => true) ["loop.example/g00064/impl.sineTable"] gs q := hV0
  rw [Tryd.params5] at hA hval
  obtain ⟨v0, vs0, d0, ds0, p0, q0, hargs, rfl, rfl, h0, r0⟩ := trodAll_cons hA
  obtain ⟨v1, vs1, d1, ds1, p1, q1, rfl, rfl, rfl, h1, r1⟩ := trodAll_cons r0
  obtain ⟨v2, vs2, d2, ds2, p2, q2, rfl, rfl, rfl, h2, r2⟩ := trodAll_cons r1
  obtain ⟨rfl, rfl, rfl⟩ := trodAll_nil r2
  obtain rfl : args = #[v0, v1, v2] := by cases args; simp_all
  obtain ⟨a0, e0⟩ := open_emitterV (hval 0 40 v0 rfl rfl) h0
  subst e0
  obtain ⟨c1, hv1, hl1⟩ := open_cloud (hval 1 43 v1 rfl rfl) h1
  obtain ⟨a2, rfl, rfl, rfl, w2⟩ := open_int Tryd.underlying3 (hval 2 3 v2 rfl rfl) h2
  obtain ⟨g, t, cs, fuel, d, p', rfl, hg, ht, hvar, hd, rfl⟩ := trodVars_one hV
  obtain rfl := Option.some.inj (gTab.symm.trans hg)
  obtain rfl := Option.some.inj (tTab.symm.trans ht)
  have hI := tabIs_of hL
  obtain rfl : cs = cells17 := Option.some.inj (hvar.symm.trans hI)
  obtain ⟨rfl, rfl⟩ := DataW.Trod.unique (v := .agg cells17) ⟨fuel, hd⟩ ⟨3, reads_table enc W _⟩
  have hT := Tab.of hI
  clear hA0 hV0 hval0
  refine (all a0 c1 v1 hv1 hl1 a2 hT).mono fun e W' ⟨he, hgr⟩ => ?_
  subst he
  exact ⟨_, rfl, post_of_kept hW' (fun _ _ _ => (trodAll_cons_mk (shut_bool Tryd.underlying4 _) trodAll_mk0)) (fun sp hsp => (trodAll_cons_mk (kept_trod (by kernel_rfl) (of_decide_eq_true (by kernel_rfl)) h0 hgr (fun x hx => hW'.lt x (by simp [hx])) (fun x hx => hsp x (by simp [hx]))) (trodAll_cons_mk (kept_trod (by kernel_rfl) (of_decide_eq_true (by kernel_rfl)) h1 hgr (fun x hx => hW'.lt x (by simp [hx])) (fun x hx => hsp x (by simp [hx]))) (trodAll_cons_mk (shut_int Tryd.underlying3 w2) trodAll_mk0)))) (fun sp _ => vars_again (var_kept hT hgr hvar) sp) hgr⟩

theorem holds : Rows.FnExactRunCloudSaid :=
  OpenClaim.holds_of_wide 5 Tryd.f5 rfl rfl rfl rfl rfl rfl rfl ⟨rfl, rfl, rfl, rfl, rfl⟩ rfl rfl rfl rfl rfl (by kernel_rfl) Tryd.func5 (by kernel_rfl)
    (of_decide_eq_true (by kernel_rfl)) (by unfold Func.isWrapper; first | (rw [if_pos (by decide +kernel)]; kernel_rfl) | (rw [if_neg (by decide +kernel)]; exact ⟨rfl, rfl⟩))
    (fun os started H enc _ => lifted os started H enc)

theorem proved : Rows.FnExactRunCloudCardSaid :=
  Claim7.holds_tied_plain_at .later [] [.data] true (true, "e391dac4bf4da29ac09014e52266773481af6335a063ce2e7b13c4694a8e5486") false
    holds (fun _ h => by cases h) (by kernel_rfl) (fun _ h => by cases h) fnExactRunCloud_row_tie rfl ⟨rfl, rfl⟩ (by kernel_rfl) rfl
    (fun f fn hf hfn => by
      obtain rfl : f = 5 := Option.some.inj ((show Tryd.prog.funcNamed "loop.example/g00064/laws.FnExactRunCloud" = some 5 by kernel_rfl).symm.trans hf) |>.symm
      obtain rfl : fn = Tryd.f5 := (Option.some.inj (Tryd.func5.symm.trans hfn)).symm
      exact ⟨by kernel_rfl, fun j t ht => by
        rw [Tryd.params5] at ht
        have hm : t ∈ [40, 43, 3] := by simpa using Array.mem_of_getElem? ht
        have hall : ([40, 43, 3].all fun u => !Tryd.prog.wantsStandIn u) = true := by kernel_rfl
        exact (show Tryd.prog.wantsStandIn t = false by simpa using List.all_eq_true.1 hall t (by simpa using hm))⟩)
    (by kernel_rfl)
#print axioms proved
end Go.Proofs.YtpeiblodefaajaaDoor.fnExactRunCloud
