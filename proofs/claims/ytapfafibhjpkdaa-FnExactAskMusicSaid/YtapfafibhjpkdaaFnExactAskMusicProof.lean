/-
  At all sections, all music and every name the program's AskMusic answers what the specification's AskMusic answers, and writes into no argument.
-/
import Derived.Test.YtapfafibhjpkdaaRows
import Derived.Test.YtapfafibhjpkdaaSAsk15
import Derived.Test.YtapfafibhjpkdaaIAsk15
import Derived.Test.YtapfafibhjpkdaaSecsO
import Derived.Test.YtapfafibhjpkdaaMusicO
import Derived.Test.YtapfafibhjpkdaaQuiet
import Derived.ChangeMaps
namespace Go.Proofs.Ytapfafibhjpkdaa.fnExactAskMusic
open Go.ChangeShapes Go.WideShapes Go.ChangeAt Go.RowKit
set_option linter.unusedVariables false

theorem own : ownKnob Try.prog.godebug = none := by kernel_rfl


/-- A variable of three cells, read alone. -/
def LocR3 (w : World) (b : Nat) (x0 x1 x2 : Value) : Prop := w.cell? ⟨b, 0, none⟩ = some x0 ∧ w.cell? ⟨b, 1, none⟩ = some x1 ∧ w.cell? ⟨b, 2, none⟩ = some x2 ∧ b < w.heap.size
theorem LocR3.kept {w w' : World} {b : Nat} {x0 x1 x2 : Value} (h : LocR3 w b x0 x1 x2) (k : Kept w w') : LocR3 w' b x0 x1 x2 := ⟨But.cell k h.1 (by omega), But.cell k h.2.1 (by omega), But.cell k h.2.2.1 (by omega), Nat.lt_of_lt_of_le h.2.2.2 k.size⟩
set_option maxRecDepth 100000 in
set_option maxHeartbeats 16000000 in
theorem walk (l : List SectionD) (v : Value) (m0 : ByteArray) (m1 : Int) (m2 nm : ByteArray) (r0 : ByteArray) (r1 : Int) (r2 : ByteArray) (jb : Bool) (w : World) (hv : SecsAt w v l) (hfit : SecsFit l) (hc : secsCost l ≤ 1048576) (hcn : m0.size + m2.size ≤ 1048576 - secsCost l) (hnm : nm.size ≤ 1048576)
    (hS : ∀ (u : World) (ao : Option Addr) (cap : Nat), SecsAt u (.slice ao l.length cap) l → l.length ≤ cap ∧ cap ≤ 9223372036854775807 → Calls Try.prog 36 #[.slice ao l.length cap, .agg #[.string m0, .int .i64 m1, .string m2], .string nm] u fun e u' => e = .returned (.tuple #[.agg #[.string r0, .int .i64 r1, .string r2], .bool jb]) ∧ Kept u u')
    (hI : ∀ (u : World) (ao : Option Addr) (cap : Nat), SecsAt u (.slice ao l.length cap) l → l.length ≤ cap ∧ cap ≤ 9223372036854775807 → Calls Try.prog 37 #[.slice ao l.length cap, .agg #[.string m0, .int .i64 m1, .string m2], .string nm] u fun e u' => e = .returned (.tuple #[.agg #[.string r0, .int .i64 r1, .string r2], .bool jb]) ∧ Kept u u') :
    Calls Try.prog 8 #[v, .agg #[.string m0, .int .i64 m1, .string m2], .string nm] w fun e w' => e = .returned (.bool true) ∧ Kept w w' := by
  have HS : Hid (∀ (u : World) (ao : Option Addr) (cap : Nat), SecsAt u (.slice ao l.length cap) l → l.length ≤ cap ∧ cap ≤ 9223372036854775807 → Calls Try.prog 36 #[.slice ao l.length cap, .agg #[.string m0, .int .i64 m1, .string m2], .string nm] u fun e u' => e = .returned (.tuple #[.agg #[.string r0, .int .i64 r1, .string r2], .bool jb]) ∧ Kept u u') := hS
  have HI : Hid (∀ (u : World) (ao : Option Addr) (cap : Nat), SecsAt u (.slice ao l.length cap) l → l.length ≤ cap ∧ cap ≤ 9223372036854775807 → Calls Try.prog 37 #[.slice ao l.length cap, .agg #[.string m0, .int .i64 m1, .string m2], .string nm] u fun e u' => e = .returned (.tuple #[.agg #[.string r0, .int .i64 r1, .string r2], .bool jb]) ∧ Kept u u') := hI
  have hdn : decide (1048576 < (nm.size : Int)) = false := by simp; omega
  clear hS hI
  obtain ⟨C, hC⟩ : ∃ C : Int, (secsCost l : Int) = C := ⟨_, rfl⟩
  have hM0 : 0 ≤ 1048576 - C ∧ 1048576 - C ≤ 1048576 := by omega
  have hM1 : ((m0.size + m2.size : Nat) : Int) ≤ 1048576 - C := by omega
  have hd1 : decide ((1048576 : Int) - C < 0) = false := by simp; omega
  have hd2 : decide ((1048576 : Int) - C - ((m0.size + m2.size : Nat) : Int) < 0) = false := by simp; omega
  have hz0 : m0.size ≤ 9223372036854775807 := by omega
  have hz2 : m2.size ≤ 9223372036854775807 := by omega
  have hll : l.length ≤ 9223372036854775807 := by unfold secsCost at hc; omega
  obtain ⟨T, hT⟩ : ∃ T : Nat, m0.size + m2.size = T := ⟨_, rfl⟩
  rw [hT] at hM1 hd2
  have HC : Hid ((secsCost l : Int) = C ∧ m0.size + m2.size = T) := ⟨hC, hT⟩
  obtain ⟨ao, cap, hfm⟩ := hv.form
  subst hfm
  clear hC hT hcn
  go_enter Try.func8, Try.ntmps8
  repeat (first | go_values | go_skip | go_guarded | go_step | go_upon)
  go_at_call 29
  refine (szSecs l _ _ _ (hv.kept ((But.refl _ _ _).alloc _)) (by omega) (by omega) hll hfit).mono ?_
  rintro e u1 ⟨rfl, k1⟩
  rw [leftOf_yes (by omega), HC.out.1]
  have K1 : Kept w u1 := ((But.refl _ _ _).alloc _).trans k1
  have La := (Loc.new w [.string m0, .int .i64 m1, .string m2] 53).kept k1
  clear k1
  have a0 := La.cell 0 rfl
  have a1 := La.cell 1 rfl
  have a2 := La.cell 2 rfl
  have al := La.lt
  dsimp only
  repeat (first | go_values | go_skip | go_guarded | go_step | go_upon)
  go_at_call 30
  refine (szMusic m0 m1 m2 _ _ hM0.1 hM0.2 hz0 hz2).mono ?_
  rintro e u2 ⟨rfl, k2⟩
  rw [HC.out.2, leftOf_yes hM1]
  have K2 := K1.trans k2
  have La := La.kept k2
  clear k2 K1
  clear a0 a1 a2 al
  have a0 := La.cell 0 rfl
  have a1 := La.cell 1 rfl
  have a2 := La.cell 2 rfl
  have al := La.lt
  dsimp only
  repeat (first | go_values | go_skip | go_guarded | go_step | go_upon)
  go_cut [8, 9] from 26 to 34 (fun v6 v7 wx => ∃ gw, v6 = .pointer (some ⟨gw, 0, none⟩) ∧ v7 = .bool jb ∧ LocR3 wx gw (.string r0) (.int .i64 r1) (.string r2) ∧ u2.heap.size ≤ gw ∧ Kept u2 wx)
  case first =>
    go_region_held3 (fun w' => w'.cell? ⟨w.heap.size, 0, none⟩ = some (.string m0) ∧ w'.cell? ⟨w.heap.size, 1, none⟩ = some (.int .i64 m1) ∧ w'.cell? ⟨w.heap.size, 2, none⟩ = some (.string m2)) (simp [go_sem, *])
      (first | (go_at_call 32; refine (toSecs l _ _ (hv.kept (But.trans K2 (by (repeat (first | with_reducible exact But.refl _ _ _ | with_reducible apply But.drewN | with_reducible apply But.drew | with_reducible apply But.alloc | (with_reducible refine But.setNew ?_ (by simp; try omega) _)))))) hc).mono ?_; rintro e y2 ⟨v2, rfl, o2, k2⟩; obtain ⟨ao2, cap2, hfm⟩ := o2.form; subst hfm; have cp2 := cap_of o2; have o2 := o2.at; have hcy2 := k2.cell_eq; have hfy2 := k2.frozen_eq; have hzy2 := k2.size; (try simp at hzy2); have n0y2 : w.heap.size < y2.heap.size := (by omega); have kwy2 : Kept u2 y2 := (But.trans (by (repeat (first | with_reducible exact But.refl _ _ _ | with_reducible apply But.drewN | with_reducible apply But.drew | with_reducible apply But.alloc | (with_reducible refine But.setNew ?_ (by simp; try omega) _)))) k2); have a0y2 := Kept.cell kwy2 a0; have a1y2 := Kept.cell kwy2 a1; have a2y2 := Kept.cell kwy2 a2; (try have m1y2 : u2.heap.size < y2.heap.size := (by omega)))
               | (go_at_call 33; refine (toMusic m0 m1 m2 _).mono ?_; rintro e y3 ⟨rfl, k3⟩; have o2 := SecsAt.kept o2 (But.trans (by (repeat (first | with_reducible exact But.refl _ _ _ | with_reducible apply But.drewN | with_reducible apply But.drew | with_reducible apply But.alloc | (with_reducible refine But.setNew ?_ (by simp; try omega) _)))) k3); have hcy3 := k3.cell_eq; have hfy3 := k3.frozen_eq; have hzy3 := k3.size; (try simp at hzy3); have n0y3 : w.heap.size < y3.heap.size := (by omega); have kwy3 : Kept u2 y3 := (But.trans (by (repeat (first | with_reducible exact kwy2 | with_reducible apply But.drewN | with_reducible apply But.drew | with_reducible apply But.alloc | (with_reducible refine But.setNew ?_ (by simp; try omega) _)))) k3); have a0y3 := Kept.cell kwy3 a0; have a1y3 := Kept.cell kwy3 a1; have a2y3 := Kept.cell kwy3 a2; (try have m1y3 : u2.heap.size < y3.heap.size := (by omega)); (try have m2y3 : y2.heap.size < y3.heap.size := (by omega)))
               | (go_at_call 36; refine (HS.out _ _ _ (SecsAt.kept o2 (by (repeat (first | with_reducible exact But.refl _ _ _ | with_reducible apply But.drewN | with_reducible apply But.drew | with_reducible apply But.alloc | (with_reducible refine But.setNew ?_ (by simp; try omega) _))))) cp2).mono ?_; rintro e y4 ⟨rfl, k4⟩; have hcy4 := k4.cell_eq; have hfy4 := k4.frozen_eq; have hzy4 := k4.size; (try simp at hzy4); have n0y4 : w.heap.size < y4.heap.size := (by omega); have kwy4 : Kept u2 y4 := (But.trans (by (repeat (first | with_reducible exact kwy3 | with_reducible apply But.drewN | with_reducible apply But.drew | with_reducible apply But.alloc | (with_reducible refine But.setNew ?_ (by simp; try omega) _)))) k4); have a0y4 := Kept.cell kwy4 a0; have a1y4 := Kept.cell kwy4 a1; have a2y4 := Kept.cell kwy4 a2; (try have m1y4 : u2.heap.size < y4.heap.size := (by omega)); (try have m2y4 : y2.heap.size < y4.heap.size := (by omega)); (try have m3y4 : y3.heap.size < y4.heap.size := (by omega)); (try have ys00 : (y4.cell? ⟨u2.heap.size, 0, none⟩).isSome = true := (by first | (simp [go_sem, *]; done) | fail)); (try have yf00 : y4.frozen? ⟨u2.heap.size, 0, none⟩ = false := (by first | (simp [go_sem, *]; done) | fail)); (try have ys01 : (y4.cell? ⟨u2.heap.size, 1, none⟩).isSome = true := (by first | (simp [go_sem, *]; done) | fail)); (try have yf01 : y4.frozen? ⟨u2.heap.size, 1, none⟩ = false := (by first | (simp [go_sem, *]; done) | fail)); (try have ys02 : (y4.cell? ⟨u2.heap.size, 2, none⟩).isSome = true := (by first | (simp [go_sem, *]; done) | fail)); (try have yf02 : y4.frozen? ⟨u2.heap.size, 2, none⟩ = false := (by first | (simp [go_sem, *]; done) | fail)); (try have ys10 : (y4.cell? ⟨y2.heap.size, 0, none⟩).isSome = true := (by first | (simp [go_sem, *]; done) | fail)); (try have yf10 : y4.frozen? ⟨y2.heap.size, 0, none⟩ = false := (by first | (simp [go_sem, *]; done) | fail)); (try have ys11 : (y4.cell? ⟨y2.heap.size, 1, none⟩).isSome = true := (by first | (simp [go_sem, *]; done) | fail)); (try have yf11 : y4.frozen? ⟨y2.heap.size, 1, none⟩ = false := (by first | (simp [go_sem, *]; done) | fail)); (try have ys12 : (y4.cell? ⟨y2.heap.size, 2, none⟩).isSome = true := (by first | (simp [go_sem, *]; done) | fail)); (try have yf12 : y4.frozen? ⟨y2.heap.size, 2, none⟩ = false := (by first | (simp [go_sem, *]; done) | fail)); (try have ys20 : (y4.cell? ⟨y3.heap.size, 0, none⟩).isSome = true := (by first | (simp [go_sem, *]; done) | fail)); (try have yf20 : y4.frozen? ⟨y3.heap.size, 0, none⟩ = false := (by first | (simp [go_sem, *]; done) | fail)); (try have ys21 : (y4.cell? ⟨y3.heap.size, 1, none⟩).isSome = true := (by first | (simp [go_sem, *]; done) | fail)); (try have yf21 : y4.frozen? ⟨y3.heap.size, 1, none⟩ = false := (by first | (simp [go_sem, *]; done) | fail)); (try have ys22 : (y4.cell? ⟨y3.heap.size, 2, none⟩).isSome = true := (by first | (simp [go_sem, *]; done) | fail)); (try have yf22 : y4.frozen? ⟨y3.heap.size, 2, none⟩ = false := (by first | (simp [go_sem, *]; done) | fail))))
    · repeat (first | go_values | go_skip | go_guarded | go_step | go_upon)
      go_meet
      case rel =>
        exact ⟨_, rfl, rfl, ⟨by simp [go_sem, *], by simp [go_sem, *], by simp [go_sem, *], by simp; try omega⟩, by omega, by (repeat (first | with_reducible exact kwy4 | with_reducible apply But.drewN | with_reducible apply But.drew | with_reducible apply But.alloc | (with_reducible refine But.setNew ?_ (by simp; try omega) _)))⟩
    · repeat (first | go_values | go_skip | go_guarded | go_step | go_upon)
      go_meet
      case rel =>
        exact ⟨_, rfl, rfl, ⟨by simp [go_sem, *], by simp [go_sem, *], by simp [go_sem, *], by simp; try omega⟩, by omega, by (repeat (first | with_reducible exact kwy4 | with_reducible apply But.drewN | with_reducible apply But.drew | with_reducible apply But.alloc | (with_reducible refine But.setNew ?_ (by simp; try omega) _)))⟩
    · repeat (first | go_values | go_skip | go_guarded | go_step | go_upon)
      go_meet
      case rel =>
        exact ⟨_, rfl, rfl, ⟨by simp [go_sem, *], by simp [go_sem, *], by simp [go_sem, *], by simp; try omega⟩, by omega, by (repeat (first | with_reducible exact kwy4 | with_reducible apply But.drewN | with_reducible apply But.drew | with_reducible apply But.alloc | (with_reducible refine But.setNew ?_ (by simp; try omega) _)))⟩
    · repeat (first | go_values | go_skip | go_guarded | go_step | go_upon)
      go_meet
      case rel =>
        exact ⟨_, rfl, rfl, ⟨by simp [go_sem, *], by simp [go_sem, *], by simp [go_sem, *], by simp; try omega⟩, by omega, by (repeat (first | with_reducible exact kwy4 | with_reducible apply But.drewN | with_reducible apply But.drew | with_reducible apply But.alloc | (with_reducible refine But.setNew ?_ (by simp; try omega) _)))⟩
  case rest =>
    obtain ⟨gw, rfl, rfl, Lw, hgw, k4⟩ := hcut
    have K4 := K2.trans k4
    have La := La.kept k4
    clear a0 a1 a2 al K2 k4 hdn
    repeat (first | go_values | go_skip | go_guarded | go_step | go_upon)
    go_at_call 32
    refine (toSecs l _ _ (hv.kept K4) hc).mono ?_
    rintro e u5 ⟨v5, rfl, ox, k5⟩
    have K5 := K4.trans k5
    have La := La.kept k5
    have Lw := Lw.kept k5
    clear K4 k5
    obtain ⟨ao5, cap5, hfm⟩ := ox.form
    subst hfm
    have cp5 := cap_of ox
    have a0 := La.cell 0 rfl
    have a1 := La.cell 1 rfl
    have a2 := La.cell 2 rfl
    have al := La.lt
    dsimp only
    repeat (first | go_values | go_skip | go_guarded | go_step | go_upon)
    go_at_call 33
    refine (toMusic m0 m1 m2 _).mono ?_
    rintro e u6 ⟨rfl, k6⟩
    have K6 := K5.trans k6
    have ox := ox.kept k6
    have Lw := Lw.kept k6
    clear K5 k6 La
    dsimp only
    repeat (first | go_values | go_skip | go_guarded | go_step | go_upon)
    go_at_call 37
    refine (HI.out _ _ _ ox.at cp5).mono ?_
    rintro e u9 ⟨rfl, k9⟩
    have K9 := K6.trans k9
    have ox := ox.kept k9
    have Lw := Lw.kept k9
    have x0 := Lw.1
    have x1 := Lw.2.1
    have x2 := Lw.2.2.1
    have xl := Lw.2.2.2
    clear K6 k9
    dsimp only
    repeat (first | go_values | go_skip | go_guarded | go_step | go_upon)
    go_at_call 38
    refine (eqMusic r0 r1 r2 _).mono ?_
    rintro e u10 ⟨rfl, k10⟩
    have K10 := (K9.alloc _).trans k10
    have ox := (ox.kept ((But.refl _ _ _).alloc _)).kept k10
    clear K9 k10 x0 x1 x2 xl Lw
    dsimp only
    repeat (first | go_values | go_skip | go_guarded | go_step | go_upon)
    go_at_call 32
    refine (toSecs l _ _ (hv.kept K10) hc).mono ?_
    rintro e u12 ⟨v12, rfl, o12, k12⟩
    have K12 := K10.trans k12
    have ox := ox.kept k12
    obtain ⟨ao12, cap12, hfm⟩ := o12.form
    subst hfm
    dsimp only
    repeat (first | go_values | go_skip | go_guarded | go_step | go_upon)
    go_at_call 35
    refine (eqSecs l _ _ _ ox.at o12.at (by omega)).mono ?_
    rintro e u13 ⟨rfl, k13⟩
    dsimp only
    repeat (first | go_values | go_skip | go_guarded | go_step | go_upon)
    go_ret
    exact ⟨rfl, K12.trans k13⟩

set_option maxRecDepth 100000 in
set_option maxHeartbeats 1000000 in
theorem big1 (l : List SectionD) (v : Value) (m0 : ByteArray) (m1 : Int) (m2 : ByteArray) (nm : ByteArray) (w : World) (hv : SecsAt w v l) (hfit : SecsFit l) (hll : l.length ≤ 9223372036854775807) (hl : 1048576 < secsCost l) (hnm : nm.size ≤ 1048576) :
    Calls Try.prog 8 #[v, .agg #[.string m0, .int .i64 m1, .string m2], .string nm] w fun e w' => e = .returned (.bool true) ∧ Kept w w' := by
  have hdn : decide (1048576 < (nm.size : Int)) = false := by simp; omega
  obtain ⟨ao, cap, hfm⟩ := hv.form
  subst hfm
  go_enter Try.func8, Try.ntmps8
  repeat (first | go_values | go_skip | go_guarded | go_step | go_upon)
  go_at_call 29
  refine (szSecs l _ _ _ (hv.kept ((But.refl _ _ _).alloc _)) (by omega) (by omega) hll hfit).mono ?_
  rintro e u1 ⟨rfl, k1⟩
  rw [leftOf_no (by omega)]
  dsimp only
  repeat (first | go_values | go_skip | go_guarded | go_step | go_upon)
  go_ret
  exact ⟨rfl, ((But.refl _ _ _).alloc _).trans k1⟩
set_option maxRecDepth 100000 in
set_option maxHeartbeats 1000000 in
theorem big2 (l : List SectionD) (v : Value) (m0 : ByteArray) (m1 : Int) (m2 : ByteArray) (nm : ByteArray) (w : World) (hv : SecsAt w v l) (hfit : SecsFit l) (hc : secsCost l ≤ 1048576) (hz0 : m0.size ≤ 9223372036854775807) (hz2 : m2.size ≤ 9223372036854775807) (hl2 : 1048576 - secsCost l < m0.size + m2.size) (hnm : nm.size ≤ 1048576) :
    Calls Try.prog 8 #[v, .agg #[.string m0, .int .i64 m1, .string m2], .string nm] w fun e w' => e = .returned (.bool true) ∧ Kept w w' := by
  obtain ⟨C, hC⟩ : ∃ C : Int, (secsCost l : Int) = C := ⟨_, rfl⟩
  have hM0 : 0 ≤ 1048576 - C ∧ 1048576 - C ≤ 1048576 := by omega
  have hM1 : 1048576 - C < ((m0.size + m2.size : Nat) : Int) := by omega
  have hd1 : decide ((1048576 : Int) - C < 0) = false := by simp; omega
  have hll : l.length ≤ 9223372036854775807 := by unfold secsCost at hc; omega
  have HC : Hid ((secsCost l : Int) = C) := hC
  clear hC hl2
  have hdn : decide (1048576 < (nm.size : Int)) = false := by simp; omega
  obtain ⟨ao, cap, hfm⟩ := hv.form
  subst hfm
  go_enter Try.func8, Try.ntmps8
  repeat (first | go_values | go_skip | go_guarded | go_step | go_upon)
  go_at_call 29
  refine (szSecs l _ _ _ (hv.kept ((But.refl _ _ _).alloc _)) (by omega) (by omega) hll hfit).mono ?_
  rintro e u1 ⟨rfl, k1⟩
  rw [leftOf_yes (by omega), HC.out]
  have K1 : Kept w u1 := ((But.refl _ _ _).alloc _).trans k1
  have La := (Loc.new w [.string m0, .int .i64 m1, .string m2] 53).kept k1
  clear k1
  have a0 := La.cell 0 rfl
  have a1 := La.cell 1 rfl
  have a2 := La.cell 2 rfl
  have al := La.lt
  dsimp only
  repeat (first | go_values | go_skip | go_guarded | go_step | go_upon)
  go_at_call 30
  refine (szMusic m0 m1 m2 _ _ hM0.1 hM0.2 hz0 hz2).mono ?_
  rintro e u2 ⟨rfl, k2⟩
  rw [leftOf_no hM1]
  dsimp only
  repeat (first | go_values | go_skip | go_guarded | go_step | go_upon)
  go_ret
  exact ⟨rfl, K1.trans k2⟩

set_option maxRecDepth 100000 in
theorem big3 (l : List SectionD) (v : Value) (m0 : ByteArray) (m1 : Int) (m2 nm : ByteArray) (w : World) (hn0 : nm.size ≤ 9223372036854775807) (hnm : 1048576 < nm.size) (hv : SecsAt w v l) :
    Calls Try.prog 8 #[v, .agg #[.string m0, .int .i64 m1, .string m2], .string nm] w fun e w' => e = .returned (.bool true) ∧ Kept w w' := by
  have hdn : decide (1048576 < (nm.size : Int)) = true := by simp; omega
  obtain ⟨ao, cap, hfm⟩ := hv.form
  subst hfm
  go_enter Try.func8, Try.ntmps8
  repeat (first | go_values | go_skip | go_guarded | go_step | go_upon)
  go_ret
  exact ⟨rfl, (But.refl _ _ _).alloc _⟩
theorem all (l : List SectionD) (v : Value) {w : World} (hv : SecsAt w v l) (hfit : SecsFit l) (hll : l.length ≤ maxLen) (m : MusicD) (hz : m.1.size ≤ maxLen ∧ m.2.2.size ≤ maxLen) (nm : ByteArray) (hnn : nm.size ≤ maxLen) (w' : World) (_ : w' = w) :
    Calls Try.prog 8 #[v, .agg (musicC m).toArray, .string nm] w fun e w' => e = .returned (.bool true) ∧ Kept w w' := by
  unfold maxLen at hz hll hnn
  by_cases hnm : nm.size ≤ 1048576
  · by_cases hl : secsCost l ≤ 1048576
    · by_cases hl2 : m.1.size + m.2.2.size ≤ 1048576 - secsCost l
      · by_cases hb : MusicP l (m.1, m.2.1, m.2.2) ∧ hasB l nm = true
        · exact walk l v m.1 m.2.1 m.2.2 nm m.1 m.2.1 nm true w hv hfit hl hl2 hnm (fun u ao cap h hcp => sask l ao cap _ _ _ nm u h hcp hl hb.1 hb.2) (fun u ao cap h hcp => iask l ao cap _ _ _ nm u h hcp hl hb.1 hb.2)
        · exact walk l v m.1 m.2.1 m.2.2 nm _ _ _ false w hv hfit hl hl2 hnm (fun u ao cap h hcp => sask_bad l ao cap _ _ _ nm u h hcp hl hb) (fun u ao cap h hcp => iask_bad l ao cap _ _ _ nm u h hcp hl hb)
      · exact big2 l v m.1 m.2.1 m.2.2 nm w hv hfit hl (by omega) (by omega) (by omega) hnm
    · exact big1 l v m.1 m.2.1 m.2.2 nm w hv hfit (by omega) (by omega) hnm
  · exact big3 l v m.1 m.2.1 m.2.2 nm w hnn (by omega) hv


set_option maxRecDepth 100000 in
theorem lifted (os : Os) (started : os.Started) (H : Type) (enc : TypeId × Value → H) :
    ReturnsInHanded {} Try.checked os 8 .any (Rows.fnExactAskMusicSpec.pre6 enc Try.prog Try.f8 Rows.fnExactAskMusicRow.domain false) (Rows.fnExactAskMusicSpec.post enc Try.prog Try.f8 false true false false) := by
  refine returnsInHanded_of_change (C := Try.checked) own started (by kernel_rfl) Try.func8
    (ChangeSpec.witness6 (enc := enc) (C := Try.checked) false ⟨#[], #[.slice none 0 0, .agg #[.string ByteArray.empty, .int .i64 0, .string ByteArray.empty], .string ByteArray.empty], []⟩ 8 (by kernel_rfl) (by kernel_rfl) (by kernel_rfl) (by kernel_rfl)) ?_
  intro W base args ds gs before hval0 hW hcnd _
  have hval : ∀ (j : Nat) t v, Try.f8.params[j]? = some t → args[j]? = some v → Value.okWide Try.prog W .any base t v := hval0
  have hW' := hW
  obtain ⟨p, q, hA0, hV, rfl, hfz, hnd⟩ := hW
  have hA : DataW.TrodAll enc Try.prog W 0 (fun _ => true) true Try.f8.params.toList args.toList ds p := hA0
  rw [Try.params8] at hA hval
  obtain ⟨v0, vs0, d0, ds0, p0, q0, hargs, rfl, rfl, h0, r0⟩ := trodAll_cons hA
  obtain ⟨v1, vs1, d1, ds1, p1, q1, rfl, rfl, rfl, h1, r1⟩ := trodAll_cons r0
  obtain ⟨v2, vs2, d2, ds2, p2, q2, rfl, rfl, rfl, h2, r2⟩ := trodAll_cons r1
  obtain ⟨rfl, rfl, rfl⟩ := trodAll_nil r2
  obtain rfl : args = #[v0, v1, v2] := by cases args; simp_all
  obtain ⟨rfl, rfl⟩ := trodVars_none hV
  obtain ⟨l0, hv0, hq0, hl0⟩ := open_secs (hval 0 51 v0 rfl rfl) h0
  obtain ⟨a1, e1, q1'⟩ := open_musicV (hval 1 53 v1 rfl rfl) h1
  subst e1
  obtain ⟨a2, rfl, rfl, rfl, w2⟩ := Go.ChangeMaps.open_string Try.underlying9 (hval 2 9 v2 rfl rfl) h2
  clear hA0 hval0
  simp only [List.append_nil] at hW'
  refine (all l0 v0 hv0 hq0 hl0 a1 q1' a2 w2 W rfl).mono fun e W' ⟨he, hg⟩ => ?_
  subst he
  exact ⟨_, rfl, post_of_kept (pa := _) (pv := []) hW' (fun _ _ _ => (trodAll_cons_mk (shut_bool Try.underlying4 _) trodAll_mk0)) (fun sp hsp => (trodAll_cons_mk (kept_trod (by kernel_rfl) (of_decide_eq_true (by kernel_rfl)) h0 hg (fun x hx => hW'.lt x (by simp [hx])) (fun x hx => hsp x (by simp [hx]))) (trodAll_cons_mk (kept_trod (by kernel_rfl) (of_decide_eq_true (by kernel_rfl)) h1 hg (fun x hx => hW'.lt x (by simp [hx])) (fun x hx => hsp x (by simp [hx]))) (trodAll_cons_mk (Go.ChangeMaps.shut_string Try.underlying9 w2) trodAll_mk0)))) (fun _ _ => rfl) hg⟩

theorem over : Rows.fnExactAskMusicRow.holds Try.pinned (OpenSpec.ofChange Rows.fnExactAskMusicSpec) :=
  OpenClaim.holds_of_wide 8 Try.f8 rfl rfl rfl rfl rfl rfl rfl ⟨rfl, rfl, rfl, rfl, rfl⟩ rfl rfl rfl rfl rfl (by kernel_rfl) Try.func8 (by kernel_rfl)
    (of_decide_eq_true (by kernel_rfl)) (by unfold Func.isWrapper; first | (rw [if_pos (by decide +kernel)]; kernel_rfl) | (rw [if_neg (by decide +kernel)]; exact ⟨rfl, rfl⟩))
    (fun os started H enc _ => lifted os started H enc)

theorem proved : Rows.FnExactAskMusicSaid :=
  over
#print axioms proved
end Go.Proofs.Ytapfafibhjpkdaa.fnExactAskMusic
