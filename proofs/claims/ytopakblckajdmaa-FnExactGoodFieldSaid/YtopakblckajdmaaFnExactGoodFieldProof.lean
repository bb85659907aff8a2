/-
  At all rules and fields the program's GoodField answers what the specification's GoodField answers, and writes into no argument.
-/
import Derived.Test.YtopakblckajdmaaRows
import Derived.Test.YtopakblckajdmaaGoodFi14
import Derived.Test.YtopakblckajdmaaOpenR
import Derived.Test.YtopakblckajdmaaOpenF
import Derived.Test.YtopakblckajdmaaQuiet
import Derived.ChangeMaps
namespace Go.Proofs.Ytopakblckajdmaa.fnExactGoodField
open Go.ChangeShapes Go.WideShapes Go.ChangeAt Go.RowKit
set_option linter.unusedVariables false

theorem own : ownKnob Try.prog.godebug = none := by kernel_rfl

set_option maxRecDepth 100000 in
set_option maxHeartbeats 16000000 in
theorem walk (r : RulesD) (f : FieldD) (v fv : Value) (w : World) (hv : RulesAt w v r) (hf : FieldAt w fv f) (hfit : RulesFit r) (hnn : f.2.2.length ≤ 9223372036854775807) (hc : rulesCost r ≤ 1048576) (hcn : f.2.2.length ≤ 1048576 - rulesCost r) :
    Calls Try.prog 5 #[v, fv] w fun e w' => e = .returned (.bool true) ∧ Kept w w' := by
  obtain ⟨J, hJ⟩ : ∃ j, dec (GoodP r f) = j := ⟨_, rfl⟩
  have HJ : Hid (dec (GoodP r f) = J) := hJ
  clear hJ
  have hr1 : r.2.1.length ≤ 1048576 := by have := (lLCost_len r.2.1).1; unfold rulesCost at hc; omega
  have hr2 : ∀ p ∈ r.2.1, p.length ≤ 1048576 := fun p hp => by have := (lLCost_len r.2.1).2 p hp; unfold rulesCost at hc; omega
  have hr3 : r.2.2.length ≤ 1048576 := by have := (lLCost_len r.2.2).1; unfold rulesCost at hc; omega
  have hr4 : ∀ p ∈ r.2.2, p.length ≤ 1048576 := fun p hp => by have := (lLCost_len r.2.2).2 p hp; unfold rulesCost at hc; omega
  obtain ⟨C, hC⟩ : ∃ C : Int, (rulesCost r : Int) = C := ⟨_, rfl⟩
  have hM0 : 0 ≤ 1048576 - C ∧ 1048576 - C ≤ 1048576 := by omega
  have hM1 : (f.2.2.length : Int) ≤ 1048576 - C := by omega
  have hn : f.2.2.length ≤ 1048576 := by omega
  have hd1 : decide ((1048576 : Int) - C < 0) = false := by simp; omega
  have hd2 : decide ((1048576 : Int) - C - (f.2.2.length : Int) < 0) = false := by simp; omega
  have hc' : rulesCost r ≤ 1048576 := hc
  obtain ⟨ar, cr, aq, cs, hfm⟩ := hv.form
  subst hfm
  obtain ⟨ao, cap, hfm⟩ := hf.form
  subst hfm
  have HC : Hid ((rulesCost r : Int) = C) := hC
  clear hC hcn
  go_enter Try.func5, Try.ntmps5
  repeat (first | go_values | go_skip | go_guarded | go_step | go_upon)
  go_at_call 16
  refine (szRules r _ _ _ (hv.kept ((((But.refl _ _ w).alloc (.cells #[.int .i64 r.1, .slice ar r.2.1.length cr, .slice aq r.2.2.length cs] 38)).alloc (.cells #[.int .i64 f.1, .int .i64 f.2.1, .slice ao f.2.2.length cap] 44)))) (by omega) (by omega) hfit).mono ?_
  rintro e u1 ⟨rfl, k1⟩
  rw [leftOf_yes (by omega), HC.out]
  have K1 : Kept w u1 := ((((But.refl _ _ w).alloc (.cells #[.int .i64 r.1, .slice ar r.2.1.length cr, .slice aq r.2.2.length cs] 38)).alloc (.cells #[.int .i64 f.1, .int .i64 f.2.1, .slice ao f.2.2.length cap] 44))).trans k1
  have La := ((Loc.new w [.int .i64 r.1, .slice ar r.2.1.length cr, .slice aq r.2.2.length cs] 38).alloc (.cells #[.int .i64 f.1, .int .i64 f.2.1, .slice ao f.2.2.length cap] 44)).kept k1
  have Lb := (Loc.new (w.alloc (.cells #[.int .i64 r.1, .slice ar r.2.1.length cr, .slice aq r.2.2.length cs] 38)) [.int .i64 f.1, .int .i64 f.2.1, .slice ao f.2.2.length cap] 44).kept k1
  simp only [World.size_alloc] at Lb
  clear k1
  have b0 := Lb.cell 0 rfl
  have b1 := Lb.cell 1 rfl
  have b2 := Lb.cell 2 rfl
  have bl := Lb.lt
  dsimp only
  repeat (first | go_values | go_skip | go_guarded | go_step | go_upon)
  go_at_call 21
  refine (szField f _ _ _ (hf.kept K1) hM0.1 hM0.2 hnn).mono ?_
  rintro e u2 ⟨rfl, k2⟩
  rw [leftOf_yes hM1]
  have K2 := K1.trans k2
  have La := La.kept k2
  have Lb := Lb.kept k2
  clear k2 K1
  clear b0 b1 b2 bl
  have a0 := La.cell 0 rfl
  have a1 := La.cell 1 rfl
  have a2 := La.cell 2 rfl
  have al := La.lt
  have b0 := Lb.cell 0 rfl
  have b1 := Lb.cell 1 rfl
  have b2 := Lb.cell 2 rfl
  have bl := Lb.lt
  dsimp only
  repeat (first | go_values | go_skip | go_guarded | go_step | go_upon)
  go_region_held3 (fun w' => w'.cell? ⟨w.heap.size, 0, none⟩ = some (.int .i64 r.1) ∧ w'.cell? ⟨w.heap.size, 1, none⟩ = some (.slice ar r.2.1.length cr) ∧ w'.cell? ⟨w.heap.size, 2, none⟩ = some (.slice aq r.2.2.length cs) ∧ w'.cell? ⟨w.heap.size + 1, 0, none⟩ = some (.int .i64 f.1) ∧ w'.cell? ⟨w.heap.size + 1, 1, none⟩ = some (.int .i64 f.2.1) ∧ w'.cell? ⟨w.heap.size + 1, 2, none⟩ = some (.slice ao f.2.2.length cap)) (simp [go_sem, *])
    (first | (go_at_call 18; refine (toRules r _ _ (hv.kept (But.trans K2 (by (repeat (first | with_reducible exact But.refl _ _ _ | with_reducible apply But.drewN | with_reducible apply But.drew | with_reducible apply But.alloc | (with_reducible refine But.setNew ?_ (by simp; try omega) _)))))) hr1 hr2 hr3 hr4).mono ?_; rintro e y2 ⟨v2, rfl, o2, k2⟩; obtain ⟨ar2, cr2, aq2, cs2, hfm⟩ := o2.form; subst hfm; have o2 := o2.at; have hcy2 := k2.cell_eq; have hzy2 := k2.size; (try simp at hzy2); have n0y2 : w.heap.size < y2.heap.size := (by omega); have n1y2 : w.heap.size + 1 < y2.heap.size := (by omega); have kwy2 : Kept u2 y2 := (But.trans (by (repeat (first | with_reducible exact But.refl _ _ _ | with_reducible apply But.drewN | with_reducible apply But.drew | with_reducible apply But.alloc | (with_reducible refine But.setNew ?_ (by simp; try omega) _)))) k2); have a0y2 := Kept.cell kwy2 a0; have a1y2 := Kept.cell kwy2 a1; have a2y2 := Kept.cell kwy2 a2; have b0y2 := Kept.cell kwy2 b0; have b1y2 := Kept.cell kwy2 b1; have b2y2 := Kept.cell kwy2 b2)
           | (go_at_call 23; refine (toField f _ _ (hf.kept (But.trans K2 (by (repeat (first | with_reducible exact kwy2 | with_reducible apply But.drewN | with_reducible apply But.drew | with_reducible apply But.alloc | (with_reducible refine But.setNew ?_ (by simp; try omega) _)))))) hn).mono ?_; rintro e y3 ⟨v3, rfl, o3, k3⟩; obtain ⟨ao3, cap3, hfm⟩ := o3.form; subst hfm; have o3 := o3.at; have o2 := RulesAt.kept o2 (But.trans (by (repeat (first | with_reducible exact But.refl _ _ _ | with_reducible apply But.drewN | with_reducible apply But.drew | with_reducible apply But.alloc | (with_reducible refine But.setNew ?_ (by simp; try omega) _)))) k3); have hcy3 := k3.cell_eq; have hzy3 := k3.size; (try simp at hzy3); have n0y3 : w.heap.size < y3.heap.size := (by omega); have n1y3 : w.heap.size + 1 < y3.heap.size := (by omega); have kwy3 : Kept u2 y3 := (But.trans (by (repeat (first | with_reducible exact kwy2 | with_reducible apply But.drewN | with_reducible apply But.drew | with_reducible apply But.alloc | (with_reducible refine But.setNew ?_ (by simp; try omega) _)))) k3); have a0y3 := Kept.cell kwy3 a0; have a1y3 := Kept.cell kwy3 a1; have a2y3 := Kept.cell kwy3 a2; have b0y3 := Kept.cell kwy3 b0; have b1y3 := Kept.cell kwy3 b1; have b2y3 := Kept.cell kwy3 b2)
           | (go_at_call 22; refine (sgoodF _ _ r f _ (RulesAt.kept o2 (by (repeat (first | with_reducible exact But.refl _ _ _ | with_reducible apply But.drewN | with_reducible apply But.drew | with_reducible apply But.alloc | (with_reducible refine But.setNew ?_ (by simp; try omega) _))))) (FieldAt.kept o3 (by (repeat (first | with_reducible exact But.refl _ _ _ | with_reducible apply But.drewN | with_reducible apply But.drew | with_reducible apply But.alloc | (with_reducible refine But.setNew ?_ (by simp; try omega) _))))) hc' hn).mono ?_; rintro e y4 ⟨rfl, k4⟩; rw [HJ.out]; have hcy4 := k4.cell_eq; have hzy4 := k4.size; (try simp at hzy4); have n0y4 : w.heap.size < y4.heap.size := (by omega); have n1y4 : w.heap.size + 1 < y4.heap.size := (by omega); have kwy4 : Kept u2 y4 := (But.trans (by (repeat (first | with_reducible exact kwy3 | with_reducible apply But.drewN | with_reducible apply But.drew | with_reducible apply But.alloc | (with_reducible refine But.setNew ?_ (by simp; try omega) _)))) k4); have a0y4 := Kept.cell kwy4 a0; have a1y4 := Kept.cell kwy4 a1; have a2y4 := Kept.cell kwy4 a2; have b0y4 := Kept.cell kwy4 b0; have b1y4 := Kept.cell kwy4 b1; have b2y4 := Kept.cell kwy4 b2))
  all_goals
    have K4 := K2.trans kwy4
    have La := La.kept kwy4
    have Lb := Lb.kept kwy4
    clear o2 o3 hcy2 hcy3 hcy4 hzy2 hzy3 hzy4 n0y2 n0y3 n0y4 n1y2 n1y3 n1y4 a0y2 a0y3 a0y4 a1y2 a1y3 a1y4 a2y2 a2y3 a2y4 b0y2 b0y3 b0y4 b1y2 b1y3 b1y4 b2y2 b2y3 b2y4 kwy2 kwy3 kwy4 k2 k3 k4 K2
    clear a0 a1 a2 al b0 b1 b2 bl
    have a0 := La.cell 0 rfl
    have a1 := La.cell 1 rfl
    have a2 := La.cell 2 rfl
    have al := La.lt
    repeat (first | go_values | go_skip | go_guarded | go_step | go_upon)
    go_at_call 18
    refine (toRules r _ _ (hv.kept K4) hr1 hr2 hr3 hr4).mono ?_
    rintro e u5 ⟨v5, rfl, ox, k5⟩
    have K5 := K4.trans k5
    have La := La.kept k5
    have Lb := Lb.kept k5
    clear a0 a1 a2 al
    clear K4 k5
    obtain ⟨ar5, cr5, aq5, cs5, hfm⟩ := ox.form
    subst hfm
    have b0 := Lb.cell 0 rfl
    have b1 := Lb.cell 1 rfl
    have b2 := Lb.cell 2 rfl
    have bl := Lb.lt
    dsimp only
    repeat (first | go_values | go_skip | go_guarded | go_step | go_upon)
    go_at_call 23
    refine (toField f _ _ (hf.kept (K5.alloc _)) hn).mono ?_
    rintro e u6 ⟨v6, rfl, oy, k6⟩
    have j6 : Kept u5 u6 := ((But.refl _ _ u5).alloc _).trans k6
    have K6 := K5.trans j6
    have La := La.kept j6
    have Lb := Lb.kept j6
    have Lx := (Loc.new u5 [.int .i64 r.1, .slice ar5 r.2.1.length cr5, .slice aq5 r.2.2.length cs5] 25).kept k6
    have ox := ox.kept j6
    clear b0 b1 b2 bl
    clear K5 k6 j6
    obtain ⟨ao6, cap6, hfm⟩ := oy.form
    subst hfm
    have x0 := Lx.cell 0 rfl
    have x1 := Lx.cell 1 rfl
    have x2 := Lx.cell 2 rfl
    have xl := Lx.lt
    dsimp only
    repeat (first | go_values | go_skip | go_guarded | go_step | go_upon)
    go_at_call 24
    refine (igoodF _ _ r f _ (ox.at.kept ((But.refl _ _ u6).alloc _)) (oy.at.kept ((But.refl _ _ u6).alloc _)) hc' hn).mono ?_
    rintro e u9 ⟨rfl, k9⟩
    rw [HJ.out]
    have j9 : Kept u6 u9 := ((But.refl _ _ u6).alloc _).trans k9
    have K9 := K6.trans j9
    have La := La.kept j9
    have Lb := Lb.kept j9
    have Lx := Lx.kept j9
    have Ly := (Loc.new u6 [.int .i64 f.1, .int .i64 f.2.1, .slice ao6 f.2.2.length cap6] 28).kept k9
    have ox := ox.kept j9
    have oy := oy.kept j9
    clear x0 x1 x2 xl
    clear K6 k9 j9
    have a0 := La.cell 0 rfl
    have a1 := La.cell 1 rfl
    have a2 := La.cell 2 rfl
    have al := La.lt
    have b0 := Lx.cell 0 rfl
    have b1 := Lx.cell 1 rfl
    have b2 := Lx.cell 2 rfl
    have bl := Lx.lt
    dsimp only
    repeat (first | go_values | go_skip | go_guarded | go_step | go_upon)
    go_region_held3 (fun w' => w'.cell? ⟨w.heap.size, 0, none⟩ = some (.int .i64 r.1) ∧ w'.cell? ⟨w.heap.size, 1, none⟩ = some (.slice ar r.2.1.length cr) ∧ w'.cell? ⟨w.heap.size, 2, none⟩ = some (.slice aq r.2.2.length cs) ∧ w'.cell? ⟨u5.heap.size, 0, none⟩ = some (.int .i64 r.1) ∧ w'.cell? ⟨u5.heap.size, 1, none⟩ = some (.slice ar5 r.2.1.length cr5) ∧ w'.cell? ⟨u5.heap.size, 2, none⟩ = some (.slice aq5 r.2.2.length cs5)) (simp [go_sem, *])
      (first | (go_at_call 18; refine (toRules r _ _ (hv.kept (But.trans K9 (by (repeat (first | with_reducible exact But.refl _ _ _ | with_reducible apply But.drewN | with_reducible apply But.drew | with_reducible apply But.alloc | (with_reducible refine But.setNew ?_ (by simp; try omega) _)))))) hr1 hr2 hr3 hr4).mono ?_; rintro e u7 ⟨v7, rfl, o7, k7⟩; obtain ⟨ar7, cr7, aq7, cs7, hfm⟩ := o7.form; subst hfm; have o7 := o7.at; have hc7 := k7.cell_eq; have hz7 := k7.size; (try simp at hz7); have n07 : w.heap.size < u7.heap.size := (by omega); have n17 : u5.heap.size < u7.heap.size := (by omega); have j7 : Kept u9 u7 := (But.trans (by (repeat (first | with_reducible exact But.refl _ _ _ | with_reducible apply But.drewN | with_reducible apply But.drew | with_reducible apply But.alloc | (with_reducible refine But.setNew ?_ (by simp; try omega) _)))) k7); have a07 := Kept.cell j7 a0; have a17 := Kept.cell j7 a1; have a27 := Kept.cell j7 a2; have b07 := Kept.cell j7 b0; have b17 := Kept.cell j7 b1; have b27 := Kept.cell j7 b2)
             | (go_at_call 20; refine (eqRules r _ _ _ (RulesAt.kept ox.at (j7.trans (by (repeat (first | with_reducible exact But.refl _ _ _ | with_reducible apply But.drewN | with_reducible apply But.drew | with_reducible apply But.alloc | (with_reducible refine But.setNew ?_ (by simp; try omega) _)))))) (RulesAt.kept o7 (by (repeat (first | with_reducible exact But.refl _ _ _ | with_reducible apply But.drewN | with_reducible apply But.drew | with_reducible apply But.alloc | (with_reducible refine But.setNew ?_ (by simp; try omega) _))))) hr1 hr2 hr3 hr4).mono ?_; rintro e u8 ⟨rfl, k8⟩; have hc8 := k8.cell_eq; have hz8 := k8.size; (try simp at hz8); have n08 : w.heap.size < u8.heap.size := (by omega); have n18 : u5.heap.size < u8.heap.size := (by omega); have j8 : Kept u9 u8 := (But.trans (j7.trans (by (repeat (first | with_reducible exact But.refl _ _ _ | with_reducible apply But.drewN | with_reducible apply But.drew | with_reducible apply But.alloc | (with_reducible refine But.setNew ?_ (by simp; try omega) _))))) k8); have a08 := Kept.cell j8 a0; have a18 := Kept.cell j8 a1; have a28 := Kept.cell j8 a2; have b08 := Kept.cell j8 b0; have b18 := Kept.cell j8 b1; have b28 := Kept.cell j8 b2))
    all_goals
      have K8 := K9.trans j8
      have La := La.kept j8
      have Lb := Lb.kept j8
      have Ly := Ly.kept j8
      have oy := oy.kept j8
      clear K9 j8 j7 k7 k8 o7 ox Lx hc7 hc8 hz7 hz8 n07 n17 n08 n18 a07 a08 a17 a18 a27 a28 b07 b08 b17 b18 b27 b28
      clear a0 a1 a2 al b0 b1 b2 bl
      have a0 := Lb.cell 0 rfl
      have a1 := Lb.cell 1 rfl
      have a2 := Lb.cell 2 rfl
      have al := Lb.lt
      have b0 := Ly.cell 0 rfl
      have b1 := Ly.cell 1 rfl
      have b2 := Ly.cell 2 rfl
      have bl := Ly.lt
      repeat (first | go_values | go_skip | go_guarded | go_step | go_upon)
      go_region_held3 (fun w' => w'.cell? ⟨w.heap.size + 1, 0, none⟩ = some (.int .i64 f.1) ∧ w'.cell? ⟨w.heap.size + 1, 1, none⟩ = some (.int .i64 f.2.1) ∧ w'.cell? ⟨w.heap.size + 1, 2, none⟩ = some (.slice ao f.2.2.length cap) ∧ w'.cell? ⟨u6.heap.size, 0, none⟩ = some (.int .i64 f.1) ∧ w'.cell? ⟨u6.heap.size, 1, none⟩ = some (.int .i64 f.2.1) ∧ w'.cell? ⟨u6.heap.size, 2, none⟩ = some (.slice ao6 f.2.2.length cap6)) (simp [go_sem, *])
        (first | (go_at_call 23; refine (toField f _ _ (hf.kept (But.trans K8 (by (repeat (first | with_reducible exact But.refl _ _ _ | with_reducible apply But.drewN | with_reducible apply But.drew | with_reducible apply But.alloc | (with_reducible refine But.setNew ?_ (by simp; try omega) _)))))) hn).mono ?_; rintro e u17 ⟨v7, rfl, o7, k7⟩; obtain ⟨ao7, cap7, hfm⟩ := o7.form; subst hfm; have o7 := o7.at; have hc7 := k7.cell_eq; have hz7 := k7.size; (try simp at hz7); have n07 : w.heap.size + 1 < u17.heap.size := (by omega); have n17 : u6.heap.size < u17.heap.size := (by omega); have j7 : Kept u8 u17 := (But.trans (by (repeat (first | with_reducible exact But.refl _ _ _ | with_reducible apply But.drewN | with_reducible apply But.drew | with_reducible apply But.alloc | (with_reducible refine But.setNew ?_ (by simp; try omega) _)))) k7); have a07 := Kept.cell j7 a0; have a17 := Kept.cell j7 a1; have a27 := Kept.cell j7 a2; have b07 := Kept.cell j7 b0; have b17 := Kept.cell j7 b1; have b27 := Kept.cell j7 b2)
               | (go_at_call 25; refine (eqField f _ _ _ (FieldAt.kept oy.at (j7.trans (by (repeat (first | with_reducible exact But.refl _ _ _ | with_reducible apply But.drewN | with_reducible apply But.drew | with_reducible apply But.alloc | (with_reducible refine But.setNew ?_ (by simp; try omega) _)))))) (FieldAt.kept o7 (by (repeat (first | with_reducible exact But.refl _ _ _ | with_reducible apply But.drewN | with_reducible apply But.drew | with_reducible apply But.alloc | (with_reducible refine But.setNew ?_ (by simp; try omega) _))))) (by omega)).mono ?_; rintro e u18 ⟨rfl, k8⟩; have hc8 := k8.cell_eq; have hz8 := k8.size; (try simp at hz8); have n08 : w.heap.size + 1 < u18.heap.size := (by omega); have n18 : u6.heap.size < u18.heap.size := (by omega); have j8 : Kept u8 u18 := (But.trans (j7.trans (by (repeat (first | with_reducible exact But.refl _ _ _ | with_reducible apply But.drewN | with_reducible apply But.drew | with_reducible apply But.alloc | (with_reducible refine But.setNew ?_ (by simp; try omega) _))))) k8); have a08 := Kept.cell j8 a0; have a18 := Kept.cell j8 a1; have a28 := Kept.cell j8 a2; have b08 := Kept.cell j8 b0; have b18 := Kept.cell j8 b1; have b28 := Kept.cell j8 b2))
      all_goals
        repeat (first | go_values | go_skip | go_guarded | go_step | go_upon)
        go_ret
        exact ⟨rfl, K8.trans j8⟩

set_option maxRecDepth 100000 in
set_option maxHeartbeats 1000000 in
theorem big1 (r : RulesD) (f : FieldD) (v fv : Value) (w : World) (hv : RulesAt w v r) (hf : FieldAt w fv f) (hfit : RulesFit r) (hl : 1048576 < rulesCost r) :
    Calls Try.prog 5 #[v, fv] w fun e w' => e = .returned (.bool true) ∧ Kept w w' := by
  obtain ⟨ar, cr, aq, cs, hfm⟩ := hv.form
  subst hfm
  obtain ⟨ao, cap, hfm⟩ := hf.form
  subst hfm
  go_enter Try.func5, Try.ntmps5
  repeat (first | go_values | go_skip | go_guarded | go_step | go_upon)
  go_at_call 16
  refine (szRules r _ _ _ (hv.kept (((But.refl _ _ _).alloc _).alloc _)) (by omega) (by omega) hfit).mono ?_
  rintro e u1 ⟨rfl, k1⟩
  rw [leftOf_no (by omega)]
  dsimp only
  repeat (first | go_values | go_skip | go_guarded | go_step | go_upon)
  go_ret
  exact ⟨rfl, But.trans (((But.refl _ _ _).alloc _).alloc _) k1⟩
set_option maxRecDepth 100000 in
set_option maxHeartbeats 1000000 in
theorem big2 (r : RulesD) (f : FieldD) (v fv : Value) (w : World) (hv : RulesAt w v r) (hf : FieldAt w fv f) (hfit : RulesFit r) (hnn : f.2.2.length ≤ 9223372036854775807) (hl : rulesCost r ≤ 1048576) (hl2 : 1048576 - rulesCost r < f.2.2.length) :
    Calls Try.prog 5 #[v, fv] w fun e w' => e = .returned (.bool true) ∧ Kept w w' := by
  obtain ⟨C, hC⟩ : ∃ C : Int, (rulesCost r : Int) = C := ⟨_, rfl⟩
  have hM0 : 0 ≤ 1048576 - C ∧ 1048576 - C ≤ 1048576 := by omega
  have hM1 : 1048576 - C < (f.2.2.length : Int) := by omega
  have hd1 : decide ((1048576 : Int) - C < 0) = false := by simp; omega
  have HC : Hid ((rulesCost r : Int) = C) := hC
  clear hC hl2
  obtain ⟨ar, cr, aq, cs, hfm⟩ := hv.form
  subst hfm
  obtain ⟨ao, cap, hfm⟩ := hf.form
  subst hfm
  go_enter Try.func5, Try.ntmps5
  repeat (first | go_values | go_skip | go_guarded | go_step | go_upon)
  go_at_call 16
  refine (szRules r _ _ _ (hv.kept (((But.refl _ _ _).alloc _).alloc _)) (by omega) (by omega) hfit).mono ?_
  rintro e u1 ⟨rfl, k1⟩
  rw [leftOf_yes (by omega), HC.out]
  have K1 : Kept w u1 := (((But.refl _ _ _).alloc _).alloc _).trans k1
  have Lb := (Loc.new (w.alloc (.cells #[.int .i64 r.1, .slice ar r.2.1.length cr, .slice aq r.2.2.length cs] 38)) [.int .i64 f.1, .int .i64 f.2.1, .slice ao f.2.2.length cap] 44).kept k1
  simp only [World.size_alloc] at Lb
  clear k1
  have b0 := Lb.cell 0 rfl
  have b1 := Lb.cell 1 rfl
  have b2 := Lb.cell 2 rfl
  have bl := Lb.lt
  dsimp only
  repeat (first | go_values | go_skip | go_guarded | go_step | go_upon)
  go_at_call 21
  refine (szField f _ _ _ (hf.kept K1) hM0.1 hM0.2 hnn).mono ?_
  rintro e u2 ⟨rfl, k2⟩
  rw [leftOf_no hM1]
  dsimp only
  repeat (first | go_values | go_skip | go_guarded | go_step | go_upon)
  go_ret
  exact ⟨rfl, K1.trans k2⟩

theorem all (r : RulesD) (v : Value) {w : World} (hv : RulesAt w v r) (hfit : RulesFit r) (f : FieldD) (fv : Value) (hf : FieldAt w fv f) (hm : f.2.2.length ≤ maxLen) (w' : World) (_ : w' = w) :
    Calls Try.prog 5 #[v, fv] w fun e w' => e = .returned (.bool true) ∧ Kept w w' := by
  have hm' : f.2.2.length ≤ 9223372036854775807 := by unfold maxLen at hm; omega
  by_cases hl : rulesCost r ≤ 1048576
  · by_cases hl2 : f.2.2.length ≤ 1048576 - rulesCost r
    · exact walk r f v fv w hv hf hfit hm' hl hl2
    · exact big2 r f v fv w hv hf hfit hm' hl (by omega)
  · exact big1 r f v fv w hv hf hfit (by omega)


set_option maxRecDepth 100000 in
theorem lifted (os : Os) (started : os.Started) (H : Type) (enc : TypeId × Value → H) :
    ReturnsInHanded {} Try.checked os 5 .any (Rows.fnExactGoodFieldSpec.pre6 enc Try.prog Try.f5 Rows.fnExactGoodFieldRow.domain false) (Rows.fnExactGoodFieldSpec.post enc Try.prog Try.f5 false true false false) := by
  refine returnsInHanded_of_change (C := Try.checked) own started (by kernel_rfl) Try.func5
    (ChangeSpec.witness6 (enc := enc) (C := Try.checked) false ⟨#[], #[.agg #[.int .i64 0, .slice none 0 0, .slice none 0 0], .agg #[.int .i64 0, .int .i64 0, .slice none 0 0]], []⟩ 8 (by kernel_rfl) (by kernel_rfl) (by kernel_rfl) (by kernel_rfl)) ?_
  intro W base args ds gs before hval0 hW hcnd _
  have hval : ∀ (j : Nat) t v, Try.f5.params[j]? = some t → args[j]? = some v → Value.okWide Try.prog W .any base t v := hval0
  have hW' := hW
  obtain ⟨p, q, hA0, hV, rfl, hfz, hnd⟩ := hW
  have hA : DataW.TrodAll enc Try.prog W 0 (fun _ => true) true Try.f5.params.toList args.toList ds p := hA0
  rw [Try.params5] at hA hval
  obtain ⟨v0, vs0, d0, ds0, p0, q0, hargs, rfl, rfl, h0, r0⟩ := trodAll_cons hA
  obtain ⟨v1, vs1, d1, ds1, p1, q1, rfl, rfl, rfl, h1, r1⟩ := trodAll_cons r0
  obtain ⟨rfl, rfl, rfl⟩ := trodAll_nil r1
  obtain rfl : args = #[v0, v1] := by cases args; simp_all
  obtain ⟨rfl, rfl⟩ := trodVars_none hV
  obtain ⟨c0, hv0, hl0⟩ := open_rules (hval 0 38 v0 rfl rfl) h0
  obtain ⟨c1, hv1, hl1⟩ := open_field (hval 1 44 v1 rfl rfl) h1
  clear hA0 hval0
  simp only [List.append_nil] at hW'
  refine (all c0 v0 hv0 hl0 c1 v1 hv1 hl1 W rfl).mono fun e W' ⟨he, hg⟩ => ?_
  subst he
  exact ⟨_, rfl, post_of_kept (pa := _) (pv := []) hW' (fun _ _ _ => (trodAll_cons_mk (shut_bool Try.underlying4 _) trodAll_mk0)) (fun sp hsp => (trodAll_cons_mk (kept_trod (by kernel_rfl) (of_decide_eq_true (by kernel_rfl)) h0 hg (fun x hx => hW'.lt x (by simp [hx])) (fun x hx => hsp x (by simp [hx]))) (trodAll_cons_mk (kept_trod (by kernel_rfl) (of_decide_eq_true (by kernel_rfl)) h1 hg (fun x hx => hW'.lt x (by simp [hx])) (fun x hx => hsp x (by simp [hx]))) trodAll_mk0))) (fun _ _ => rfl) hg⟩

theorem over : Rows.fnExactGoodFieldRow.holds Try.pinned (OpenSpec.ofChange Rows.fnExactGoodFieldSpec) :=
  OpenClaim.holds_of_wide 5 Try.f5 rfl rfl rfl rfl rfl rfl rfl ⟨rfl, rfl, rfl, rfl, rfl⟩ rfl rfl rfl rfl rfl (by kernel_rfl) Try.func5 (by kernel_rfl)
    (of_decide_eq_true (by kernel_rfl)) (by unfold Func.isWrapper; first | (rw [if_pos (by decide +kernel)]; kernel_rfl) | (rw [if_neg (by decide +kernel)]; exact ⟨rfl, rfl⟩))
    (fun os started H enc _ => lifted os started H enc)

theorem proved : Rows.FnExactGoodFieldSaid :=
  over
#print axioms proved
end Go.Proofs.Ytopakblckajdmaa.fnExactGoodField
