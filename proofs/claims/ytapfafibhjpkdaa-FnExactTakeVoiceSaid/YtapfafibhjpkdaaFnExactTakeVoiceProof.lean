/-
  At all lists of voices and every voice the program's TakeVoice answers what the specification's TakeVoice answers, writes into no argument, and its answer owns its memory.
-/
import Derived.Test.YtapfafibhjpkdaaRows
import Derived.Test.YtapfafibhjpkdaaSTake15
import Derived.Test.YtapfafibhjpkdaaITake15
import Derived.Test.YtapfafibhjpkdaaVHeld15
import Derived.Test.YtapfafibhjpkdaaVoicesO
import Derived.Test.YtapfafibhjpkdaaQuiet
import Derived.ChangeMaps
namespace Go.Proofs.Ytapfafibhjpkdaa.fnExactTakeVoice
open Go.ChangeShapes Go.WideShapes Go.ChangeAt Go.RowKit
set_option linter.unusedVariables false

theorem own : ownKnob Try.prog.godebug = none := by kernel_rfl


theorem sum_set {α : Type} (f : α → Nat) (x : α) : ∀ (l : List α) (i : Nat), ((l.set i x).map f).sum ≤ (l.map f).sum + f x
  | [], i => by simp
  | y :: l, 0 => by simp; omega
  | y :: l, i + 1 => by
    have := sum_set f x l i
    rw [List.set_cons_succ, List.map_cons, List.sum_cons, List.map_cons, List.sum_cons]
    omega
theorem take_cost (ds : List VoiceD) (d : VoiceD) : voicesCost (takeR ds d).1 ≤ voicesCost ds + 1 + d.1.length := by
  unfold takeR
  split
  · unfold voicesCost
    dsimp only
    rw [List.length_append, List.map_append, List.sum_append]
    have h2 : voicesOne d = d.1.length := rfl
    simp only [List.length_cons, List.length_nil, List.map_cons, List.map_nil, List.sum_cons, List.sum_nil]
    omega
  · split
    · dsimp only; omega
    · have := sum_set voicesOne d ds (lst ds ds.length)
      unfold voicesCost
      dsimp only
      rw [List.length_set]
      have h2 : voicesOne d = d.1.length := rfl
      omega
theorem mk_le {ts : List VoiceE} {ds : List VoiceD} (h : ts.map stripVoice = ds) : vMk ts ≤ 5 * voicesCost ds := by
  subst h
  unfold vMk voicesCost
  induction ts with
  | nil => simp
  | cons t ts ih =>
    simp [voicesOne, stripVoice] at ih ⊢
    omega
set_option maxRecDepth 100000 in
set_option maxHeartbeats 16000000 in
theorem walk (ds : List VoiceD) (d : VoiceD) (v dv : Value) (R : List VoiceD) (kR : Int) (jb : Bool) (w : World) (hv : VoicesAt w v ds) (hd : VAt w dv d) (hfit : VoicesFit ds) (hc : voicesCost ds ≤ 1048576) (hcn : d.1.length ≤ 1048576 - voicesCost ds) (hR : voicesCost R ≤ 10000000)
    (hS : ∀ (u : World) (v p : Value), VoicesAt u v ds → VAt u p d → Calls Try.prog 24 #[v, p] u fun e u' => ∃ v', e = .returned (.tuple #[v', .int .i64 kR, .bool jb]) ∧ VoicesO u' u.heap.size u'.heap.size v' R ∧ Kept u u')
    (hI : ∀ (u : World) (v p : Value), VoicesAt u v ds → VAt u p d → Calls Try.prog 25 #[v, p] u fun e u' => ∃ v', e = .returned (.tuple #[v', .int .i64 kR, .bool jb]) ∧ VoicesO u' u.heap.size u'.heap.size v' R ∧ Kept u u') :
    Calls Try.prog 5 #[v, dv] w fun e w' => e = .returned (.bool true) ∧ Kept w w' := by
  have HS : Hid (∀ (u : World) (v p : Value), VoicesAt u v ds → VAt u p d → Calls Try.prog 24 #[v, p] u fun e u' => ∃ v', e = .returned (.tuple #[v', .int .i64 kR, .bool jb]) ∧ VoicesO u' u.heap.size u'.heap.size v' R ∧ Kept u u') := hS
  have HI : Hid (∀ (u : World) (v p : Value), VoicesAt u v ds → VAt u p d → Calls Try.prog 25 #[v, p] u fun e u' => ∃ v', e = .returned (.tuple #[v', .int .i64 kR, .bool jb]) ∧ VoicesO u' u.heap.size u'.heap.size v' R ∧ Kept u u') := hI
  clear hS hI
  obtain ⟨C, hC⟩ : ∃ C : Int, (voicesCost ds : Int) = C := ⟨_, rfl⟩
  have hM0 : 0 ≤ 1048576 - C ∧ 1048576 - C ≤ 1048576 := by omega
  have hM1 : (d.1.length : Int) ≤ 1048576 - C := by omega
  have hd1 : decide ((1048576 : Int) - C < 0) = false := by simp; omega
  have hd2 : decide ((1048576 : Int) - C - (d.1.length : Int) < 0) = false := by simp; omega
  have hdn : d.1.length ≤ 1048576 := by omega
  have hll : ds.length ≤ 9223372036854775807 := by unfold voicesCost at hc; omega
  have HC : Hid ((voicesCost ds : Int) = C) := hC
  have HLD : Hid (ds.length ≤ 1048576 ∧ voicesCost ds + d.1.length ≤ 1048576) := ⟨by unfold voicesCost at hc; omega, by omega⟩
  obtain ⟨aq, cq, hfm⟩ := hv.form
  subst hfm
  obtain ⟨ao, cap, hfm⟩ := hd.form
  subst hfm
  clear hC hcn
  go_enter Try.func5, Try.ntmps5
  repeat (first | go_values | go_skip | go_guarded | go_step | go_upon)
  go_at_call 14
  refine (szVoices ds _ _ _ (hv.kept ((But.refl _ _ _).alloc _)) (by omega) (by omega) hll hfit).mono ?_
  rintro e u1 ⟨rfl, k1⟩
  rw [leftOf_yes (by omega), HC.out]
  have K1 : Kept w u1 := ((But.refl _ _ _).alloc _).trans k1
  have La := (Loc.new w [.slice ao d.1.length cap, .int .i64 d.2.1, .bool d.2.2.1, .int .i64 d.2.2.2.1, .int .i64 d.2.2.2.2.1, .int .i64 d.2.2.2.2.2] 24).kept k1
  clear k1
  have a0 := La.cell 0 rfl
  have a1 := La.cell 1 rfl
  have a2 := La.cell 2 rfl
  have a3 := La.cell 3 rfl
  have a4 := La.cell 4 rfl
  have a5 := La.cell 5 rfl
  have al := La.lt
  dsimp only
  repeat (first | go_values | go_skip | go_guarded | go_step | go_upon)
  go_at_call 9
  refine (szV d _ _ _ (hd.kept K1) hM0.1 hM0.2 (by omega)).mono ?_
  rintro e u2 ⟨rfl, k2⟩
  rw [leftOf_yes hM1]
  have K2 := K1.trans k2
  have La := La.kept k2
  clear k2 K1 hM0 hM1
  clear a0 a1 a2 a3 a4 a5 al
  have a0 := La.cell 0 rfl
  have a1 := La.cell 1 rfl
  have a2 := La.cell 2 rfl
  have a3 := La.cell 3 rfl
  have a4 := La.cell 4 rfl
  have a5 := La.cell 5 rfl
  have al := La.lt
  dsimp only
  repeat (first | go_values | go_skip | go_guarded | go_step | go_upon)
  go_region_held3 (fun w' => w'.cell? ⟨w.heap.size, 0, none⟩ = some (.slice ao d.1.length cap) ∧ w'.cell? ⟨w.heap.size, 1, none⟩ = some (.int .i64 d.2.1) ∧ w'.cell? ⟨w.heap.size, 2, none⟩ = some (.bool d.2.2.1) ∧ w'.cell? ⟨w.heap.size, 3, none⟩ = some (.int .i64 d.2.2.2.1) ∧ w'.cell? ⟨w.heap.size, 4, none⟩ = some (.int .i64 d.2.2.2.2.1) ∧ w'.cell? ⟨w.heap.size, 5, none⟩ = some (.int .i64 d.2.2.2.2.2)) (simp [go_sem, *])
    (first | (go_at_call 16; refine (toVoices ds _ _ (hv.kept (But.trans K2 (by (repeat (first | with_reducible exact But.refl _ _ _ | with_reducible apply But.drewN | with_reducible apply But.drew | with_reducible apply But.alloc | (with_reducible refine But.setNew ?_ (by simp; try omega) _)))))) hc).mono ?_; rintro e y2 ⟨v2, rfl, o2, k2⟩; obtain ⟨ao2, cap2, hfm⟩ := o2.form; subst hfm; have o2 := o2.at; have hcy2 := k2.cell_eq; have hfy2 := k2.frozen_eq; have hzy2 := k2.size; (try simp at hzy2); have n0y2 : w.heap.size < y2.heap.size := (by omega); have kwy2 : Kept u2 y2 := (But.trans (by (repeat (first | with_reducible exact But.refl _ _ _ | with_reducible apply But.drewN | with_reducible apply But.drew | with_reducible apply But.alloc | (with_reducible refine But.setNew ?_ (by simp; try omega) _)))) k2); have a0y2 := Kept.cell kwy2 a0; have a1y2 := Kept.cell kwy2 a1; have a2y2 := Kept.cell kwy2 a2; have a3y2 := Kept.cell kwy2 a3; have a4y2 := Kept.cell kwy2 a4; have a5y2 := Kept.cell kwy2 a5)
           | (go_at_call 11; refine (toV d _ _ (hd.kept (But.trans K2 (by (repeat (first | with_reducible exact kwy2 | with_reducible apply But.drewN | with_reducible apply But.drew | with_reducible apply But.alloc | (with_reducible refine But.setNew ?_ (by simp; try omega) _)))))) hdn).mono ?_; rintro e y3 ⟨v3, rfl, o3, k3⟩; obtain ⟨ao3, cap3, hfm⟩ := o3.form; subst hfm; have o3 := o3.at; have o2 := VoicesAt.kept o2 (But.trans (by (repeat (first | with_reducible exact But.refl _ _ _ | with_reducible apply But.drewN | with_reducible apply But.drew | with_reducible apply But.alloc | (with_reducible refine But.setNew ?_ (by simp; try omega) _)))) k3); have hcy3 := k3.cell_eq; have hfy3 := k3.frozen_eq; have hzy3 := k3.size; (try simp at hzy3); have n0y3 : w.heap.size < y3.heap.size := (by omega); have kwy3 : Kept u2 y3 := (But.trans (by (repeat (first | with_reducible exact kwy2 | with_reducible apply But.drewN | with_reducible apply But.drew | with_reducible apply But.alloc | (with_reducible refine But.setNew ?_ (by simp; try omega) _)))) k3); have a0y3 := Kept.cell kwy3 a0; have a1y3 := Kept.cell kwy3 a1; have a2y3 := Kept.cell kwy3 a2; have a3y3 := Kept.cell kwy3 a3; have a4y3 := Kept.cell kwy3 a4; have a5y3 := Kept.cell kwy3 a5)
           | (go_at_call 24; refine (HS.out _ _ _ (VoicesAt.kept o2 (by (repeat (first | with_reducible exact But.refl _ _ _ | with_reducible apply But.drewN | with_reducible apply But.drew | with_reducible apply But.alloc | (with_reducible refine But.setNew ?_ (by simp; try omega) _))))) (VAt.kept o3 (by (repeat (first | with_reducible exact But.refl _ _ _ | with_reducible apply But.drewN | with_reducible apply But.drew | with_reducible apply But.alloc | (with_reducible refine But.setNew ?_ (by simp; try omega) _)))))).mono ?_; rintro e y4 ⟨v4, rfl, oA, k4⟩; obtain ⟨ao4, cap4, hfm⟩ := oA.form; subst hfm; obtain ⟨lo4, hlo4, oA⟩ : ∃ lo, lo = _ ∧ VoicesO y4 lo y4.heap.size _ R := ⟨_, rfl, oA⟩; (try simp at hlo4); have hcy4 := k4.cell_eq; have hfy4 := k4.frozen_eq; have hzy4 := k4.size; (try simp at hzy4); have n0y4 : w.heap.size < y4.heap.size := (by omega); have kwy4 : Kept u2 y4 := (But.trans (by (repeat (first | with_reducible exact kwy3 | with_reducible apply But.drewN | with_reducible apply But.drew | with_reducible apply But.alloc | (with_reducible refine But.setNew ?_ (by simp; try omega) _)))) k4); have a0y4 := Kept.cell kwy4 a0; have a1y4 := Kept.cell kwy4 a1; have a2y4 := Kept.cell kwy4 a2; have a3y4 := Kept.cell kwy4 a3; have a4y4 := Kept.cell kwy4 a4; have a5y4 := Kept.cell kwy4 a5))
  all_goals
    have K4 := K2.trans kwy4
    have La := La.kept kwy4
    have ow := oA
    have hw0 := al
    have sy4 : u2.heap.size ≤ lo4 := by omega
    clear o2 o3 oA hcy2 hcy3 hcy4 hfy2 hfy3 hfy4 n0y2 n0y3 n0y4 a0y2 a0y3 a0y4 a1y2 a1y3 a1y4 a2y2 a2y3 a2y4 a3y2 a3y3 a3y4 a4y2 a4y3 a4y4 a5y2 a5y3 a5y4 k2 k3 k4 kwy2 kwy3 kwy4 K2 hd1 hd2 hlo4
    clear a0 a1 a2 a3 a4 a5 al
    repeat (first | go_values | go_skip | go_guarded | go_step | go_upon)
    go_at_call 16
    refine (toVoices ds _ _ (hv.kept K4) hc).mono ?_
    rintro e u5 ⟨v5, rfl, ox, k5⟩
    have K5 := K4.trans k5
    have La := La.kept k5
    have ow := ow.kept k5
    have s5 := k5.size
    obtain ⟨ao5, cap5, hfm⟩ := ox.form
    subst hfm
    clear k5 K4
    have a0 := La.cell 0 rfl
    have a1 := La.cell 1 rfl
    have a2 := La.cell 2 rfl
    have a3 := La.cell 3 rfl
    have a4 := La.cell 4 rfl
    have a5 := La.cell 5 rfl
    have al := La.lt
    dsimp only
    repeat (first | go_values | go_skip | go_guarded | go_step | go_upon)
    go_at_call 11
    refine (toV d _ _ (hd.kept K5) hdn).mono ?_
    rintro e u6 ⟨v6, rfl, oy, k6⟩
    have K6 := K5.trans k6
    have La := La.kept k6
    have ow := ow.kept k6
    have ox := ox.kept k6
    have s6 := k6.size
    obtain ⟨ao6, cap6, hfm⟩ := oy.form
    subst hfm
    clear k6 K5
    clear a0 a1 a2 a3 a4 a5 al
    dsimp only
    repeat (first | go_values | go_skip | go_guarded | go_step | go_upon)
    go_at_call 25
    refine (HI.out _ _ _ (ox.at.kept ((But.refl _ _ u6).alloc _)) (oy.at.kept ((But.refl _ _ u6).alloc _))).mono ?_
    rintro e u9 ⟨v9, rfl, og, k9⟩
    have j9 : Kept u6 u9 := ((But.refl _ _ u6).alloc _).trans k9
    have K9 := K6.trans j9
    have La := La.kept j9
    have ow := ow.kept j9
    have ox := ox.kept j9
    have oy := oy.kept j9
    have Lx := (Loc.new u6 [.slice ao6 d.1.length cap6, .int .i64 d.2.1, .bool d.2.2.1, .int .i64 d.2.2.2.1, .int .i64 d.2.2.2.2.1, .int .i64 d.2.2.2.2.2] 27).kept k9
    have s9 := j9.size
    have hx9 := Lx.lt
    simp only [World.size_alloc] at og
    obtain ⟨ao9, cap9, hfm⟩ := og.form
    subst hfm
    clear k9 j9 K6
    dsimp only
    repeat (first | go_values | go_skip | go_guarded | go_step | go_upon)
    go_at_call 19
    refine (eqVoices R _ _ _ og.at ow.at (by omega)).mono ?_
    rintro e u10 ⟨rfl, k10⟩
    have K10 := K9.trans k10
    have La := La.kept k10
    have Lx := Lx.kept k10
    have ow := ow.kept k10
    have ox := ox.kept k10
    have oy := oy.kept k10
    have og := og.kept k10
    have s10 := k10.size
    clear k10 K9
    dsimp only
    repeat (first | go_values | go_skip | go_guarded | go_step | go_upon)
    go_at_call 16
    refine (toVoices ds _ _ (hv.kept K10) hc).mono ?_
    rintro e u11 ⟨v11, rfl, o11, k11⟩
    have K11 := K10.trans k11
    have La := La.kept k11
    have Lx := Lx.kept k11
    have ow := ow.kept k11
    have ox := ox.kept k11
    have oy := oy.kept k11
    have og := og.kept k11
    have s11 := k11.size
    obtain ⟨ao11, cap11, hfm⟩ := o11.form
    subst hfm
    clear k11 K10
    dsimp only
    repeat (first | go_values | go_skip | go_guarded | go_step | go_upon)
    go_at_call 19
    refine (eqVoices ds _ _ _ ox.at o11.at (by omega)).mono ?_
    rintro e u12 ⟨rfl, k12⟩
    have K12 := K11.trans k12
    have La := La.kept k12
    have Lx := Lx.kept k12
    have ow := ow.kept k12
    have ox := ox.kept k12
    have oy := oy.kept k12
    have og := og.kept k12
    have s12 := k12.size
    clear k12 K11 o11
    have a0 := La.cell 0 rfl
    have a1 := La.cell 1 rfl
    have a2 := La.cell 2 rfl
    have a3 := La.cell 3 rfl
    have a4 := La.cell 4 rfl
    have a5 := La.cell 5 rfl
    have al := La.lt
    have b0 := Lx.cell 0 rfl
    have b1 := Lx.cell 1 rfl
    have b2 := Lx.cell 2 rfl
    have b3 := Lx.cell 3 rfl
    have b4 := Lx.cell 4 rfl
    have b5 := Lx.cell 5 rfl
    have bl := Lx.lt
    dsimp only
    repeat (first | go_values | go_skip | go_guarded | go_step | go_upon)
    go_region_held3 (fun w' => w'.cell? ⟨w.heap.size, 0, none⟩ = some (.slice ao d.1.length cap) ∧ w'.cell? ⟨w.heap.size, 1, none⟩ = some (.int .i64 d.2.1) ∧ w'.cell? ⟨w.heap.size, 2, none⟩ = some (.bool d.2.2.1) ∧ w'.cell? ⟨w.heap.size, 3, none⟩ = some (.int .i64 d.2.2.2.1) ∧ w'.cell? ⟨w.heap.size, 4, none⟩ = some (.int .i64 d.2.2.2.2.1) ∧ w'.cell? ⟨w.heap.size, 5, none⟩ = some (.int .i64 d.2.2.2.2.2) ∧ w'.cell? ⟨u6.heap.size, 0, none⟩ = some (.slice ao6 d.1.length cap6) ∧ w'.cell? ⟨u6.heap.size, 1, none⟩ = some (.int .i64 d.2.1) ∧ w'.cell? ⟨u6.heap.size, 2, none⟩ = some (.bool d.2.2.1) ∧ w'.cell? ⟨u6.heap.size, 3, none⟩ = some (.int .i64 d.2.2.2.1) ∧ w'.cell? ⟨u6.heap.size, 4, none⟩ = some (.int .i64 d.2.2.2.2.1) ∧ w'.cell? ⟨u6.heap.size, 5, none⟩ = some (.int .i64 d.2.2.2.2.2)) (simp [go_sem, *])
      (first | (go_at_call 11; refine (toV d _ _ (hd.kept (But.trans K12 (by (repeat (first | with_reducible exact But.refl _ _ _ | with_reducible apply But.drewN | with_reducible apply But.drew | with_reducible apply But.alloc | (with_reducible refine But.setNew ?_ (by simp; try omega) _)))))) hdn).mono ?_; rintro e z7 ⟨v7, rfl, o7, k7⟩; obtain ⟨ao7, cap7, hfm⟩ := o7.form; subst hfm; have o7 := o7.at; have hc7 := k7.cell_eq; have hz7 := k7.size; (try simp at hz7); have n07 : w.heap.size < z7.heap.size := (by omega); have n17 : u6.heap.size < z7.heap.size := (by omega); have j7 : Kept u12 z7 := (But.trans (by (repeat (first | with_reducible exact But.refl _ _ _ | with_reducible apply But.drewN | with_reducible apply But.drew | with_reducible apply But.alloc | (with_reducible refine But.setNew ?_ (by simp; try omega) _)))) k7); have a07 := Kept.cell j7 a0; have a17 := Kept.cell j7 a1; have a27 := Kept.cell j7 a2; have a37 := Kept.cell j7 a3; have a47 := Kept.cell j7 a4; have a57 := Kept.cell j7 a5; have b07 := Kept.cell j7 b0; have b17 := Kept.cell j7 b1; have b27 := Kept.cell j7 b2; have b37 := Kept.cell j7 b3; have b47 := Kept.cell j7 b4; have b57 := Kept.cell j7 b5)
             | (go_at_call 13; refine (eqV d _ _ _ (VAt.kept oy.at (j7.trans (by (repeat (first | with_reducible exact But.refl _ _ _ | with_reducible apply But.drewN | with_reducible apply But.drew | with_reducible apply But.alloc | (with_reducible refine But.setNew ?_ (by simp; try omega) _)))))) (VAt.kept o7 (by (repeat (first | with_reducible exact But.refl _ _ _ | with_reducible apply But.drewN | with_reducible apply But.drew | with_reducible apply But.alloc | (with_reducible refine But.setNew ?_ (by simp; try omega) _))))) (by omega)).mono ?_; rintro e z8 ⟨rfl, k8⟩; have hc8 := k8.cell_eq; have hz8 := k8.size; (try simp at hz8); have n08 : w.heap.size < z8.heap.size := (by omega); have n18 : u6.heap.size < z8.heap.size := (by omega); have j8 : Kept u12 z8 := (But.trans (j7.trans (by (repeat (first | with_reducible exact But.refl _ _ _ | with_reducible apply But.drewN | with_reducible apply But.drew | with_reducible apply But.alloc | (with_reducible refine But.setNew ?_ (by simp; try omega) _))))) k8); have a08 := Kept.cell j8 a0; have a18 := Kept.cell j8 a1; have a28 := Kept.cell j8 a2; have a38 := Kept.cell j8 a3; have a48 := Kept.cell j8 a4; have a58 := Kept.cell j8 a5; have b08 := Kept.cell j8 b0; have b18 := Kept.cell j8 b1; have b28 := Kept.cell j8 b2; have b38 := Kept.cell j8 b3; have b48 := Kept.cell j8 b4; have b58 := Kept.cell j8 b5))
    all_goals
      have K18 := K12.trans j8
      have La := La.kept j8
      have Lx := Lx.kept j8
      have ow := ow.kept j8
      have ox := ox.kept j8
      have oy := oy.kept j8
      have og := og.kept j8
      have s8 := j8.size
      clear K12 j8 j7 k7 k8 o7 hc7 hc8 hz7 hz8 n07 n17 n08 n18 a07 a08 a17 a18 a27 a28 a37 a38 a47 a48 a57 a58 b07 b08 b17 b18 b27 b28 b37 b38 b47 b48 b57 b58
      clear a0 a1 a2 a3 a4 a5 al b0 b1 b2 b3 b4 b5 bl
      obtain ⟨tx, ox, ex⟩ := ox
      have hex := mk_le ex
      have htx : tx.length = ds.length := voices_len ex
      have hld := HLD.out
      repeat (first | go_values | go_skip | go_guarded | go_step | go_upon)
      go_at_call 20
      refine (markVs tx _ 1 y4.heap.size u5.heap.size _ ox (by omega) (by omega)).mono ?_
      rintro e u20 ⟨rfl, -, k20⟩
      obtain ⟨q1, hq1⟩ : ∃ q, 1 + vMk tx = q := ⟨_, rfl⟩
      rw [hq1]
      have K20 : Kept w _ := But.onto K18 k20 (by omega)
      have La := La.but k20 (by omega)
      have Lx := Lx.but k20 (by omega)
      have ow := ow.but k20 (by omega)
      have oy := oy.but k20 (by omega)
      have og := og.but k20 (by omega)
      have s20 := k20.size
      clear k20 K18 ox
      have b0 := Lx.cell 0 rfl
      have b1 := Lx.cell 1 rfl
      have b2 := Lx.cell 2 rfl
      have b3 := Lx.cell 3 rfl
      have b4 := Lx.cell 4 rfl
      have b5 := Lx.cell 5 rfl
      have bl := Lx.lt
      dsimp only
      repeat (first | go_values | go_skip | go_guarded | go_step | go_upon)
      go_at_call 26
      refine (markV1 d _ q1 u5.heap.size u6.heap.size _ oy (by omega) (by omega)).mono ?_
      rintro e u21 ⟨rfl, k21⟩
      obtain ⟨q2, hq2⟩ : ∃ q, q1 + d.1.length = q := ⟨_, rfl⟩
      rw [hq2]
      have hdq2 : decide ((q2 : Int) < 0) = false := by simp
      clear hq1 hq2
      have K21 : Kept w _ := But.onto K20 k21 (by omega)
      have La := La.but k21 (by omega)
      have Lx := Lx.but k21 (by omega)
      have ow := ow.but k21 (by omega)
      have og := og.but k21 (by omega)
      have s21 := k21.size
      clear k21 K20 oy
      clear b0 b1 b2 b3 b4 b5 bl
      dsimp only
      repeat (first | go_values | go_skip | go_guarded | go_step | go_upon)
      go_at_call 19
      refine (eqVoices R _ _ _ og.at ow.at (by omega)).mono ?_
      rintro e u22 ⟨rfl, k22⟩
      have K22 := K21.trans k22
      have La := La.kept k22
      have Lx := Lx.kept k22
      have ow := ow.kept k22
      have og := og.kept k22
      have s22 := k22.size
      clear k22 K21 hdq2
      obtain ⟨tg, og, eg⟩ := og
      have heg := mk_le eg
      have htg : tg.length = R.length := voices_len eg
      have hrl : R.length ≤ 10000000 := by unfold voicesCost at hR; omega
      dsimp only
      repeat (first | go_values | go_skip | go_guarded | go_step | go_upon)
      go_at_call 20
      refine (markVs tg _ 1 (u6.heap.size + 1) u9.heap.size _ og (by omega) (by omega)).mono ?_
      rintro e u23 ⟨rfl, o15, k23⟩
      obtain ⟨q3, hq3⟩ : ∃ q, 1 + vMk tg = q := ⟨_, rfl⟩
      rw [hq3]
      have HQ3 : Hid (1 + vMk tg = q3) := hq3
      have hdq3 : decide ((q3 : Int) < 0) = false := by simp
      clear hq3
      have K23 : Kept w _ := But.onto K22 k23 (by omega)
      have La := La.but k23 (by omega)
      have Lx := Lx.but k23 (by omega)
      have ow := ow.but k23 (by omega)
      have s23 := k23.size
      clear k23 K22 og
      dsimp only
      repeat (first | go_values | go_skip | go_guarded | go_step | go_upon)
      go_at_call 23
      refine (heldVs tg _ 1 _ o15.at (by omega) (by omega)).mono ?_
      rintro e u24 ⟨rfl, k24⟩
      rw [HQ3.out]
      have K24 := K23.trans k24
      have La := La.kept k24
      have Lx := Lx.kept k24
      have ow := ow.kept k24
      have o15 := o15.kept k24
      have s24 := k24.size
      clear k24 K23
      have a0 := La.cell 0 rfl
      have a1 := La.cell 1 rfl
      have a2 := La.cell 2 rfl
      have a3 := La.cell 3 rfl
      have a4 := La.cell 4 rfl
      have a5 := La.cell 5 rfl
      have al := La.lt
      dsimp only
      repeat (first | go_values | go_skip | go_guarded | go_step | go_upon)
      go_region_held3 (fun w' => w'.cell? ⟨w.heap.size, 0, none⟩ = some (.slice ao d.1.length cap) ∧ w'.cell? ⟨w.heap.size, 1, none⟩ = some (.int .i64 d.2.1) ∧ w'.cell? ⟨w.heap.size, 2, none⟩ = some (.bool d.2.2.1) ∧ w'.cell? ⟨w.heap.size, 3, none⟩ = some (.int .i64 d.2.2.2.1) ∧ w'.cell? ⟨w.heap.size, 4, none⟩ = some (.int .i64 d.2.2.2.2.1) ∧ w'.cell? ⟨w.heap.size, 5, none⟩ = some (.int .i64 d.2.2.2.2.2)) (simp [go_sem, *])
        (first | (go_at_call 16; refine (toVoices ds _ _ (hv.kept (But.trans K24 (by (repeat (first | with_reducible exact But.refl _ _ _ | with_reducible apply But.drewN | with_reducible apply But.drew | with_reducible apply But.alloc | (with_reducible refine But.setNew ?_ (by simp; try omega) _)))))) hc).mono ?_; rintro e x2 ⟨v2, rfl, o2, k2⟩; obtain ⟨ao2, cap2, hfm⟩ := o2.form; subst hfm; have o2 := o2.at; have hcx2 := k2.cell_eq; have hfx2 := k2.frozen_eq; have hzx2 := k2.size; (try simp at hzx2); have n0x2 : w.heap.size < x2.heap.size := (by omega); have kwx2 : Kept u24 x2 := (But.trans (by (repeat (first | with_reducible exact But.refl _ _ _ | with_reducible apply But.drewN | with_reducible apply But.drew | with_reducible apply But.alloc | (with_reducible refine But.setNew ?_ (by simp; try omega) _)))) k2); have a0x2 := Kept.cell kwx2 a0; have a1x2 := Kept.cell kwx2 a1; have a2x2 := Kept.cell kwx2 a2; have a3x2 := Kept.cell kwx2 a3; have a4x2 := Kept.cell kwx2 a4; have a5x2 := Kept.cell kwx2 a5)
               | (go_at_call 11; refine (toV d _ _ (hd.kept (But.trans K24 (by (repeat (first | with_reducible exact kwx2 | with_reducible apply But.drewN | with_reducible apply But.drew | with_reducible apply But.alloc | (with_reducible refine But.setNew ?_ (by simp; try omega) _)))))) hdn).mono ?_; rintro e x3 ⟨v3, rfl, o3, k3⟩; obtain ⟨ao3, cap3, hfm⟩ := o3.form; subst hfm; have o3 := o3.at; have o2 := VoicesAt.kept o2 (But.trans (by (repeat (first | with_reducible exact But.refl _ _ _ | with_reducible apply But.drewN | with_reducible apply But.drew | with_reducible apply But.alloc | (with_reducible refine But.setNew ?_ (by simp; try omega) _)))) k3); have hcx3 := k3.cell_eq; have hfx3 := k3.frozen_eq; have hzx3 := k3.size; (try simp at hzx3); have n0x3 : w.heap.size < x3.heap.size := (by omega); have kwx3 : Kept u24 x3 := (But.trans (by (repeat (first | with_reducible exact kwx2 | with_reducible apply But.drewN | with_reducible apply But.drew | with_reducible apply But.alloc | (with_reducible refine But.setNew ?_ (by simp; try omega) _)))) k3); have a0x3 := Kept.cell kwx3 a0; have a1x3 := Kept.cell kwx3 a1; have a2x3 := Kept.cell kwx3 a2; have a3x3 := Kept.cell kwx3 a3; have a4x3 := Kept.cell kwx3 a4; have a5x3 := Kept.cell kwx3 a5)
               | (go_at_call 25; refine (HI.out _ _ _ (VoicesAt.kept o2 (by (repeat (first | with_reducible exact But.refl _ _ _ | with_reducible apply But.drewN | with_reducible apply But.drew | with_reducible apply But.alloc | (with_reducible refine But.setNew ?_ (by simp; try omega) _))))) (VAt.kept o3 (by (repeat (first | with_reducible exact But.refl _ _ _ | with_reducible apply But.drewN | with_reducible apply But.drew | with_reducible apply But.alloc | (with_reducible refine But.setNew ?_ (by simp; try omega) _)))))).mono ?_; rintro e x4 ⟨v4, rfl, oA, k4⟩; obtain ⟨ao4, cap4, hfm⟩ := oA.form; subst hfm; obtain ⟨lo4, hlo4, oA⟩ : ∃ lo, lo = _ ∧ VoicesO x4 lo x4.heap.size _ R := ⟨_, rfl, oA⟩; (try simp at hlo4); have hcx4 := k4.cell_eq; have hfx4 := k4.frozen_eq; have hzx4 := k4.size; (try simp at hzx4); have n0x4 : w.heap.size < x4.heap.size := (by omega); have kwx4 : Kept u24 x4 := (But.trans (by (repeat (first | with_reducible exact kwx3 | with_reducible apply But.drewN | with_reducible apply But.drew | with_reducible apply But.alloc | (with_reducible refine But.setNew ?_ (by simp; try omega) _)))) k4); have a0x4 := Kept.cell kwx4 a0; have a1x4 := Kept.cell kwx4 a1; have a2x4 := Kept.cell kwx4 a2; have a3x4 := Kept.cell kwx4 a3; have a4x4 := Kept.cell kwx4 a4; have a5x4 := Kept.cell kwx4 a5))
      all_goals
        have K25 := K24.trans kwx4
        have ow := ow.kept kwx4
        have o15 := o15.kept kwx4
        have oh := oA
        clear o2 o3 oA hcx2 hcx3 hcx4 hfx2 hfx3 hfx4 n0x2 n0x3 n0x4 a0x2 a0x3 a0x4 a1x2 a1x3 a1x4 a2x2 a2x3 a2x4 a3x2 a3x3 a3x4 a4x2 a4x3 a4x4 a5x2 a5x3 a5x4 k2 k3 k4 kwx2 kwx3 kwx4 K24 hlo4
        clear a0 a1 a2 a3 a4 a5 al
        repeat (first | go_values | go_skip | go_guarded | go_step | go_upon)
        go_at_call 19
        refine (eqVoices R _ _ _ oh.at ow.at (by omega)).mono ?_
        rintro e u26 ⟨rfl, k26⟩
        have K26 := K25.trans k26
        have o15 := o15.kept k26
        clear k26 K25
        dsimp only
        repeat (first | go_values | go_skip | go_guarded | go_step | go_upon)
        go_at_call 23
        refine (heldVs tg _ 1 _ o15.at (by omega) (by omega)).mono ?_
        rintro e u27 ⟨rfl, k27⟩
        rw [HQ3.out]
        have K27 := K26.trans k27
        dsimp only
        repeat (first | go_values | go_skip | go_guarded | go_step | go_upon)
        go_ret
        exact ⟨rfl, K27⟩

set_option maxRecDepth 100000 in
set_option maxHeartbeats 1000000 in
theorem big1 (ds : List VoiceD) (d : VoiceD) (v dv : Value) (w : World) (hv : VoicesAt w v ds) (hd : VAt w dv d) (hfit : VoicesFit ds) (hll : ds.length ≤ 9223372036854775807) (hl : 1048576 < voicesCost ds) :
    Calls Try.prog 5 #[v, dv] w fun e w' => e = .returned (.bool true) ∧ Kept w w' := by
  obtain ⟨aq, cq, hfm⟩ := hv.form
  subst hfm
  obtain ⟨ao, cap, hfm⟩ := hd.form
  subst hfm
  go_enter Try.func5, Try.ntmps5
  repeat (first | go_values | go_skip | go_guarded | go_step | go_upon)
  go_at_call 14
  refine (szVoices ds _ _ _ (hv.kept ((But.refl _ _ _).alloc _)) (by omega) (by omega) hll hfit).mono ?_
  rintro e u1 ⟨rfl, k1⟩
  rw [leftOf_no (by omega)]
  dsimp only
  repeat (first | go_values | go_skip | go_guarded | go_step | go_upon)
  go_ret
  exact ⟨rfl, ((But.refl _ _ _).alloc _).trans k1⟩
set_option maxRecDepth 100000 in
set_option maxHeartbeats 1000000 in
theorem big2 (ds : List VoiceD) (d : VoiceD) (v dv : Value) (w : World) (hv : VoicesAt w v ds) (hd : VAt w dv d) (hfit : VoicesFit ds) (hdl : d.1.length ≤ 9223372036854775807) (hc : voicesCost ds ≤ 1048576) (hl2 : 1048576 - voicesCost ds < d.1.length) :
    Calls Try.prog 5 #[v, dv] w fun e w' => e = .returned (.bool true) ∧ Kept w w' := by
  obtain ⟨C, hC⟩ : ∃ C : Int, (voicesCost ds : Int) = C := ⟨_, rfl⟩
  have hM0 : 0 ≤ 1048576 - C ∧ 1048576 - C ≤ 1048576 := by omega
  have hM1 : 1048576 - C < (d.1.length : Int) := by omega
  have hd1 : decide ((1048576 : Int) - C < 0) = false := by simp; omega
  have hll : ds.length ≤ 9223372036854775807 := by unfold voicesCost at hc; omega
  have HC : Hid ((voicesCost ds : Int) = C) := hC
  clear hC hl2
  obtain ⟨aq, cq, hfm⟩ := hv.form
  subst hfm
  obtain ⟨ao, cap, hfm⟩ := hd.form
  subst hfm
  go_enter Try.func5, Try.ntmps5
  repeat (first | go_values | go_skip | go_guarded | go_step | go_upon)
  go_at_call 14
  refine (szVoices ds _ _ _ (hv.kept ((But.refl _ _ _).alloc _)) (by omega) (by omega) hll hfit).mono ?_
  rintro e u1 ⟨rfl, k1⟩
  rw [leftOf_yes (by omega), HC.out]
  have K1 : Kept w u1 := ((But.refl _ _ _).alloc _).trans k1
  have La := (Loc.new w [.slice ao d.1.length cap, .int .i64 d.2.1, .bool d.2.2.1, .int .i64 d.2.2.2.1, .int .i64 d.2.2.2.2.1, .int .i64 d.2.2.2.2.2] 24).kept k1
  clear k1
  have a0 := La.cell 0 rfl
  have a1 := La.cell 1 rfl
  have a2 := La.cell 2 rfl
  have a3 := La.cell 3 rfl
  have a4 := La.cell 4 rfl
  have a5 := La.cell 5 rfl
  have al := La.lt
  dsimp only
  repeat (first | go_values | go_skip | go_guarded | go_step | go_upon)
  go_at_call 9
  refine (szV d _ _ _ (hd.kept K1) hM0.1 hM0.2 hdl).mono ?_
  rintro e u2 ⟨rfl, k2⟩
  rw [leftOf_no hM1]
  dsimp only
  repeat (first | go_values | go_skip | go_guarded | go_step | go_upon)
  go_ret
  exact ⟨rfl, K1.trans k2⟩
theorem all (ds : List VoiceD) (v : Value) {w : World} (hv : VoicesAt w v ds) (hfit : VoicesFit ds) (hll : ds.length ≤ maxLen) (d : VoiceD) (dv : Value) (hd : VAt w dv d) (hdl : d.1.length ≤ maxLen) (w' : World) (_ : w' = w) :
    Calls Try.prog 5 #[v, dv] w fun e w' => e = .returned (.bool true) ∧ Kept w w' := by
  unfold maxLen at hll hdl
  by_cases hl : voicesCost ds ≤ 1048576
  · by_cases hl2 : d.1.length ≤ 1048576 - voicesCost ds
    · by_cases hb : VoicesP ds ∧ VoiceQ d
      · refine walk ds d v dv (takeR ds d).1 (takeR ds d).2 true w hv hd hfit hl hl2 (by have := take_cost ds d; omega) (fun u v p hv hp => ?_) (fun u v p hv hp => ?_)
        · obtain ⟨s, rfl, h⟩ := hp
          obtain ⟨ao, cap, hf⟩ := row_nil h
          subst hf
          exact stake ds v ao cap d.1 _ _ _ _ _ u hv h hl (by omega) hb.1 hb.2
        · obtain ⟨s, rfl, h⟩ := hp
          obtain ⟨ao, cap, hf⟩ := row_nil h
          subst hf
          exact itake ds v ao cap d.1 _ _ _ _ _ u hv h hl (by omega) hb.1 hb.2
      · refine walk ds d v dv [] 0 false w hv hd hfit hl hl2 (by simp [voicesCost]) (fun u v p hv hp => ?_) (fun u v p hv hp => ?_)
        · obtain ⟨s, rfl, h⟩ := hp
          obtain ⟨ao, cap, hf⟩ := row_nil h
          subst hf
          refine (stake_bad ds v ao cap d.1 _ _ _ _ _ u hv h hl (by omega) hb).mono ?_
          rintro e u' ⟨rfl, k⟩
          exact ⟨_, rfl, ⟨[], voice_nil _ _ _, rfl⟩, k⟩
        · obtain ⟨s, rfl, h⟩ := hp
          obtain ⟨ao, cap, hf⟩ := row_nil h
          subst hf
          refine (itake_bad ds v ao cap d.1 _ _ _ _ _ u hv h hl (by omega) hb).mono ?_
          rintro e u' ⟨rfl, k⟩
          exact ⟨_, rfl, ⟨[], voice_nil _ _ _, rfl⟩, k⟩
    · exact big2 ds d v dv w hv hd hfit (by omega) hl (by omega)
  · exact big1 ds d v dv w hv hd hfit (by omega) (by omega)


set_option maxRecDepth 100000 in
theorem lifted (os : Os) (started : os.Started) (H : Type) (enc : TypeId × Value → H) :
    ReturnsInHanded {} Try.checked os 5 .any (Rows.fnExactTakeVoiceSpec.pre6 enc Try.prog Try.f5 Rows.fnExactTakeVoiceRow.domain false) (Rows.fnExactTakeVoiceSpec.post enc Try.prog Try.f5 false true false false) := by
  refine returnsInHanded_of_change (C := Try.checked) own started (by kernel_rfl) Try.func5
    (ChangeSpec.witness6 (enc := enc) (C := Try.checked) false ⟨#[], #[.slice none 0 0, .agg #[.slice none 0 0, .int .i64 0, .bool false, .int .i64 0, .int .i64 0, .int .i64 0]], []⟩ 8 (by kernel_rfl) (by kernel_rfl) (by kernel_rfl) (by kernel_rfl)) ?_
  intro W base args ds gs before hval0 hW hcnd _
  have hval : ∀ (j : Nat) t v, Try.f5.params[j]? = some t → args[j]? = some v → Value.okWide Try.prog W .any base t v := hval0
  have hW' := hW
  obtain ⟨p, q, hA0, hV, rfl, hfz, hnd⟩ := hW
  have hA : DataW.TrodAll enc Try.prog W 0 (fun _ => true) true Try.f5.params.toList args.toList ds p := hA0
  rw [Try.params5] at hA hval
  obtain ⟨v0, vs0, d0, ds0, p0, q0, hargs, rfl, rfl, h0, r0⟩ := trodAll_cons hA
  obtain ⟨v1, vs1, d1, ds1, p1, q1, rfl, rfl, rfl, h1, r1⟩ := trodAll_cons r0
  obtain ⟨rfl, rfl, rfl⟩ := trodAll_nil r1
  obtain rfl : args = #[v0, v1] := by cases args; simp_all
  obtain ⟨rfl, rfl⟩ := trodVars_none hV
  obtain ⟨l0, hv0, hq0, hl0⟩ := open_voices (hval 0 31 v0 rfl rfl) h0
  obtain ⟨c1, hv1, hl1⟩ := open_vw (hval 1 24 v1 rfl rfl) h1
  clear hA0 hval0
  simp only [List.append_nil] at hW'
  refine (all l0 v0 hv0 hq0 hl0 c1 v1 hv1 hl1 W rfl).mono fun e W' ⟨he, hg⟩ => ?_
  subst he
  exact ⟨_, rfl, post_of_kept (pa := _) (pv := []) hW' (fun _ _ _ => (trodAll_cons_mk (shut_bool Try.underlying4 _) trodAll_mk0)) (fun sp hsp => (trodAll_cons_mk (kept_trod (by kernel_rfl) (of_decide_eq_true (by kernel_rfl)) h0 hg (fun x hx => hW'.lt x (by simp [hx])) (fun x hx => hsp x (by simp [hx]))) (trodAll_cons_mk (kept_trod (by kernel_rfl) (of_decide_eq_true (by kernel_rfl)) h1 hg (fun x hx => hW'.lt x (by simp [hx])) (fun x hx => hsp x (by simp [hx]))) trodAll_mk0))) (fun _ _ => rfl) hg⟩

theorem over : Rows.fnExactTakeVoiceRow.holds Try.pinned (OpenSpec.ofChange Rows.fnExactTakeVoiceSpec) :=
  OpenClaim.holds_of_wide 5 Try.f5 rfl rfl rfl rfl rfl rfl rfl ⟨rfl, rfl, rfl, rfl, rfl⟩ rfl rfl rfl rfl rfl (by kernel_rfl) Try.func5 (by kernel_rfl)
    (of_decide_eq_true (by kernel_rfl)) (by unfold Func.isWrapper; first | (rw [if_pos (by decide +kernel)]; kernel_rfl) | (rw [if_neg (by decide +kernel)]; exact ⟨rfl, rfl⟩))
    (fun os started H enc _ => lifted os started H enc)

theorem proved : Rows.FnExactTakeVoiceSaid :=
  over
#print axioms proved
end Go.Proofs.Ytapfafibhjpkdaa.fnExactTakeVoice
