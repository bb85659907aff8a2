/-
  What TakeVoice answers in the program.
-/
import Derived.Test.YtapfafibhjpkdaaVLeast15
import Derived.Test.YtapfafibhjpkdaaVCopy15
import Derived.Test.YtapfafibhjpkdaaVGood15
import Derived.Test.YtapfafibhjpkdaaQuiet
import Derived.Deep.CutBlock
import Derived.Deep.CutRange
import Derived.Deep.DeepCutAuto
import Derived.Deep.RegionHeld3
namespace Go.Proofs.Ytapfafibhjpkdaa
open Go.ChangeShapes Go.WideShapes Go.ChangeAt Go.RowKit

set_option maxRecDepth 100000
set_option linter.unusedVariables false

/-- A variable of six cells, read alone. -/
def LocR6 (w : World) (b : Nat) (x0 x1 x2 x3 x4 x5 : Value) : Prop := w.cell? ⟨b, 0, none⟩ = some x0 ∧ w.cell? ⟨b, 1, none⟩ = some x1 ∧ w.cell? ⟨b, 2, none⟩ = some x2 ∧ w.cell? ⟨b, 3, none⟩ = some x3 ∧ w.cell? ⟨b, 4, none⟩ = some x4 ∧ w.cell? ⟨b, 5, none⟩ = some x5 ∧ b < w.heap.size
theorem LocR6.kept {w w' : World} {b : Nat} {x0 x1 x2 x3 x4 x5 : Value} (h : LocR6 w b x0 x1 x2 x3 x4 x5) (k : Kept w w') : LocR6 w' b x0 x1 x2 x3 x4 x5 := ⟨But.cell k h.1 (by omega), But.cell k h.2.1 (by omega), But.cell k h.2.2.1 (by omega), But.cell k h.2.2.2.1 (by omega), But.cell k h.2.2.2.2.1 (by omega), But.cell k h.2.2.2.2.2.1 (by omega), Nat.lt_of_lt_of_le h.2.2.2.2.2.2 k.size⟩

set_option maxHeartbeats 16000000 in
theorem itake_bad (ds : List VoiceD) (v : Value) (ao : Option Addr) (cap : Nat) (l : List Int) (a : Int) (lp : Bool) (lf rt rk : Int) (w : World) (hv : VoicesAt w v ds) (hl : NumAt w (.slice ao l.length cap) l) (hn : voicesCost ds ≤ 1048576) (hll : l.length ≤ 1048576) (hb : ¬ (VoicesP ds ∧ VoiceP l a lf rt rk)) :
    Calls Try.prog 25 #[v, .agg #[.slice ao l.length cap, .int .i64 a, .bool lp, .int .i64 lf, .int .i64 rt, .int .i64 rk]] w fun e w' => e = .returned (.tuple #[.slice none 0 0, .int .i64 0, .bool false]) ∧ Kept w w' := by
  cases q1 : dec (VoicesP ds) with
  | false =>
    obtain ⟨aq, cq, hsl⟩ := hv.form
    subst hsl
    have hln : ds.length ≤ 1048576 := by unfold voicesCost at hn; omega
    have K0 : Kept w (w.alloc (.cells #[.slice ao l.length cap, .int .i64 a, .bool lp, .int .i64 lf, .int .i64 rt, .int .i64 rk] 27)) := (But.refl _ _ _).alloc _
    go_enter Try.func25, Try.ntmps25
    repeat (first | go_values | go_skip | go_guarded | go_step | go_upon)
    go_at_call 49
    refine (ivoices ds _ _ (hv.kept K0) hn).mono ?_
    rintro e w1 ⟨rfl, k1⟩
    rw [q1]
    have K1 := K0.trans k1
    have L1 := (Loc.new w [.slice ao l.length cap, .int .i64 a, .bool lp, .int .i64 lf, .int .i64 rt, .int .i64 rk] 27).kept k1
    have p0 := L1.cell 0 rfl
    have p1 := L1.cell 1 rfl
    have p2 := L1.cell 2 rfl
    have p3 := L1.cell 3 rfl
    have p4 := L1.cell 4 rfl
    have p5 := L1.cell 5 rfl
    dsimp only
    repeat (first | go_values | go_skip | go_guarded | go_step | go_upon)
    go_returns
    exact ⟨rfl, K1⟩
  | true =>
    have q2 : dec (VoiceP l a lf rt rk) = false := dec_no fun h => hb ⟨of_dec q1, h⟩
    obtain ⟨aq, cq, hsl⟩ := hv.form
    subst hsl
    have hln : ds.length ≤ 1048576 := by unfold voicesCost at hn; omega
    have K0 : Kept w (w.alloc (.cells #[.slice ao l.length cap, .int .i64 a, .bool lp, .int .i64 lf, .int .i64 rt, .int .i64 rk] 27)) := (But.refl _ _ _).alloc _
    go_enter Try.func25, Try.ntmps25
    repeat (first | go_values | go_skip | go_guarded | go_step | go_upon)
    go_at_call 49
    refine (ivoices ds _ _ (hv.kept K0) hn).mono ?_
    rintro e w1 ⟨rfl, k1⟩
    rw [q1]
    have K1 := K0.trans k1
    have L1 := (Loc.new w [.slice ao l.length cap, .int .i64 a, .bool lp, .int .i64 lf, .int .i64 rt, .int .i64 rk] 27).kept k1
    have p0 := L1.cell 0 rfl
    have p1 := L1.cell 1 rfl
    have p2 := L1.cell 2 rfl
    have p3 := L1.cell 3 rfl
    have p4 := L1.cell 4 rfl
    have p5 := L1.cell 5 rfl
    dsimp only
    repeat (first | go_values | go_skip | go_guarded | go_step | go_upon)
    go_at_call 12
    refine (igoodV _ l a lp lf rt rk _ (hl.kept K1) hll).mono ?_
    rintro e w2 ⟨rfl, k2⟩
    rw [q2]
    have K2 := K1.trans k2
    dsimp only
    repeat (first | go_values | go_skip | go_guarded | go_step | go_upon)
    go_returns
    exact ⟨rfl, K2⟩

set_option maxHeartbeats 16000000 in
theorem itake (ds : List VoiceD) (v : Value) (ao : Option Addr) (cap : Nat) (l : List Int) (a : Int) (lp : Bool) (lf rt rk : Int) (w : World) (hv : VoicesAt w v ds) (hl : NumAt w (.slice ao l.length cap) l) (hn : voicesCost ds ≤ 1048576) (hll : l.length ≤ 1048576) (hP : VoicesP ds) (hQ : VoiceP l a lf rt rk) :
    Calls Try.prog 25 #[v, .agg #[.slice ao l.length cap, .int .i64 a, .bool lp, .int .i64 lf, .int .i64 rt, .int .i64 rk]] w fun e w' => ∃ v', e = .returned (.tuple #[v', .int .i64 (takeR ds (l, a, lp, lf, rt, rk)).2, .bool true]) ∧ VoicesO w' w.heap.size w'.heap.size v' (takeR ds (l, a, lp, lf, rt, rk)).1 ∧ Kept w w' := by
  have q1 := dec_yes hP
  have q2 := dec_yes hQ
  obtain ⟨aq, cq, hsl⟩ := hv.form
  subst hsl
  have hln : ds.length ≤ 1048576 := by unfold voicesCost at hn; omega
  have K0 : Kept w (w.alloc (.cells #[.slice ao l.length cap, .int .i64 a, .bool lp, .int .i64 lf, .int .i64 rt, .int .i64 rk] 27)) := (But.refl _ _ _).alloc _
  go_enter Try.func25, Try.ntmps25
  repeat (first | go_values | go_skip | go_guarded | go_step | go_upon)
  go_at_call 49
  refine (ivoices ds _ _ (hv.kept K0) hn).mono ?_
  rintro e w1 ⟨rfl, k1⟩
  rw [q1]
  have K1 := K0.trans k1
  have L1 := (Loc.new w [.slice ao l.length cap, .int .i64 a, .bool lp, .int .i64 lf, .int .i64 rt, .int .i64 rk] 27).kept k1
  have p0 := L1.cell 0 rfl
  have p1 := L1.cell 1 rfl
  have p2 := L1.cell 2 rfl
  have p3 := L1.cell 3 rfl
  have p4 := L1.cell 4 rfl
  have p5 := L1.cell 5 rfl
  dsimp only
  repeat (first | go_values | go_skip | go_guarded | go_step | go_upon)
  go_at_call 12
  refine (igoodV _ l a lp lf rt rk _ (hl.kept K1) hll).mono ?_
  rintro e w2 ⟨rfl, k2⟩
  rw [q2]
  have K2 := K1.trans k2
  have L2 := L1.kept k2
  have hv := hv.kept K2
  have hl := hl.kept K2
  have HW2 : Hid (Kept w w2) := K2
  have hw2 := L2.lt
  clear k1 k2 K0 K1 K2 L1 p0 p1 p2 p3 p4 p5
  have p0 := L2.cell 0 rfl
  have p1 := L2.cell 1 rfl
  have p2 := L2.cell 2 rfl
  have p3 := L2.cell 3 rfl
  have p4 := L2.cell 4 rfl
  have p5 := L2.cell 5 rfl
  clear L2
  dsimp only
  repeat (first | go_values | go_skip | go_guarded | go_step | go_upon)
  go_cut [7, 8] from 18 to 21 (fun v7 v8 wx => ∃ gw ao' c' a4 p4' ts, v7 = .slice ao' ds.length c' ∧ v8 = .pointer (some ⟨gw, 0, none⟩) ∧ LocR6 wx gw (.slice a4 l.length p4') (.int .i64 a) (.bool lp) (.int .i64 lf) (.int .i64 rt) (.int .i64 rk) ∧ Kept w2 wx ∧ ts.map stripVoice = ds ∧ VoiceO wx w2.heap.size wx.heap.size (.slice ao' ds.length c') ts ∧ NumO wx w2.heap.size wx.heap.size (.slice a4 l.length p4') l ∧ (∀ (i : Nat) (p : VoiceE), ts[i]? = some p → Ap p.1.1 (.slice a4 l.length p4')))
  case first =>
    go_region_held3 (fun w' => w'.cell? ⟨w.heap.size, 0, none⟩ = some (.slice ao l.length cap) ∧ w'.cell? ⟨w.heap.size, 1, none⟩ = some (.int .i64 a) ∧ w'.cell? ⟨w.heap.size, 2, none⟩ = some (.bool lp) ∧ w'.cell? ⟨w.heap.size, 3, none⟩ = some (.int .i64 lf) ∧ w'.cell? ⟨w.heap.size, 4, none⟩ = some (.int .i64 rt) ∧ w'.cell? ⟨w.heap.size, 5, none⟩ = some (.int .i64 rk)) (simp [go_sem, *])
      (first | (go_at_call 56; refine (icopyvs ds _ _ (hv.kept (by (repeat (first | with_reducible exact But.refl _ _ _ | with_reducible apply But.drewN | with_reducible apply But.drew | with_reducible apply But.alloc | (with_reducible refine But.setNew ?_ (by simp; try omega) _))))) hn).mono ?_; rintro e y2 ⟨v2, rfl, o2, k2⟩; obtain ⟨ao', c', hfm⟩ := o2.form; subst hfm; obtain ⟨lo2, hlo2, ts, o2, hst⟩ : ∃ lo, lo = _ ∧ VoicesO y2 lo y2.heap.size _ ds := ⟨_, rfl, o2⟩; (try simp at hlo2); have hcy2 := k2.cell_eq; have hfy2 := k2.frozen_eq; have hzy2 := k2.size; (try simp at hzy2); have n0y2 : w.heap.size < y2.heap.size := (by omega); have kwy2 : Kept w2 y2 := (But.trans (by (repeat (first | with_reducible exact But.refl _ _ _ | with_reducible apply But.drewN | with_reducible apply But.drew | with_reducible apply But.alloc | (with_reducible refine But.setNew ?_ (by simp; try omega) _)))) k2); have p0y2 := Kept.cell kwy2 p0; have p1y2 := Kept.cell kwy2 p1; have p2y2 := Kept.cell kwy2 p2; have p3y2 := Kept.cell kwy2 p3; have p4y2 := Kept.cell kwy2 p4; have p5y2 := Kept.cell kwy2 p5; (try have m1y2 : w2.heap.size < y2.heap.size := (by omega)))
             | (go_at_call 59; refine (iownV ao cap l a lp lf rt rk _ (hl.kept (by (repeat (first | with_reducible exact kwy2 | with_reducible apply But.drewN | with_reducible apply But.drew | with_reducible apply But.alloc | (with_reducible refine But.setNew ?_ (by simp; try omega) _))))) hll).mono ?_; rintro e y3 ⟨a4, p4', rfl, hno, k3⟩; obtain ⟨lo3, hlo3, hno⟩ : ∃ lo, lo = _ ∧ NumO y3 lo y3.heap.size _ l := ⟨_, rfl, hno⟩; (try simp at hlo3); have o2 := o2.kept (But.trans (by (repeat (first | with_reducible exact But.refl _ _ _ | with_reducible apply But.drewN | with_reducible apply But.drew | with_reducible apply But.alloc | (with_reducible refine But.setNew ?_ (by simp; try omega) _)))) k3); have hcy3 := k3.cell_eq; have hfy3 := k3.frozen_eq; have hzy3 := k3.size; (try simp at hzy3); have n0y3 : w.heap.size < y3.heap.size := (by omega); have kwy3 : Kept w2 y3 := (But.trans (by (repeat (first | with_reducible exact kwy2 | with_reducible apply But.drewN | with_reducible apply But.drew | with_reducible apply But.alloc | (with_reducible refine But.setNew ?_ (by simp; try omega) _)))) k3); have p0y3 := Kept.cell kwy3 p0; have p1y3 := Kept.cell kwy3 p1; have p2y3 := Kept.cell kwy3 p2; have p3y3 := Kept.cell kwy3 p3; have p4y3 := Kept.cell kwy3 p4; have p5y3 := Kept.cell kwy3 p5; (try have m1y3 : w2.heap.size < y3.heap.size := (by omega)); (try have m2y3 : y2.heap.size < y3.heap.size := (by omega)); (try have ys00 : (y3.cell? ⟨w2.heap.size, 0, none⟩).isSome = true := (by first | (simp [go_sem, *]; done) | fail)); (try have yf00 : y3.frozen? ⟨w2.heap.size, 0, none⟩ = false := (by first | (simp [go_sem, *]; done) | fail)); (try have ys01 : (y3.cell? ⟨w2.heap.size, 1, none⟩).isSome = true := (by first | (simp [go_sem, *]; done) | fail)); (try have yf01 : y3.frozen? ⟨w2.heap.size, 1, none⟩ = false := (by first | (simp [go_sem, *]; done) | fail)); (try have ys02 : (y3.cell? ⟨w2.heap.size, 2, none⟩).isSome = true := (by first | (simp [go_sem, *]; done) | fail)); (try have yf02 : y3.frozen? ⟨w2.heap.size, 2, none⟩ = false := (by first | (simp [go_sem, *]; done) | fail)); (try have ys03 : (y3.cell? ⟨w2.heap.size, 3, none⟩).isSome = true := (by first | (simp [go_sem, *]; done) | fail)); (try have yf03 : y3.frozen? ⟨w2.heap.size, 3, none⟩ = false := (by first | (simp [go_sem, *]; done) | fail)); (try have ys04 : (y3.cell? ⟨w2.heap.size, 4, none⟩).isSome = true := (by first | (simp [go_sem, *]; done) | fail)); (try have yf04 : y3.frozen? ⟨w2.heap.size, 4, none⟩ = false := (by first | (simp [go_sem, *]; done) | fail)); (try have ys05 : (y3.cell? ⟨w2.heap.size, 5, none⟩).isSome = true := (by first | (simp [go_sem, *]; done) | fail)); (try have yf05 : y3.frozen? ⟨w2.heap.size, 5, none⟩ = false := (by first | (simp [go_sem, *]; done) | fail)); (try have ys10 : (y3.cell? ⟨y2.heap.size, 0, none⟩).isSome = true := (by first | (simp [go_sem, *]; done) | fail)); (try have yf10 : y3.frozen? ⟨y2.heap.size, 0, none⟩ = false := (by first | (simp [go_sem, *]; done) | fail)); (try have ys11 : (y3.cell? ⟨y2.heap.size, 1, none⟩).isSome = true := (by first | (simp [go_sem, *]; done) | fail)); (try have yf11 : y3.frozen? ⟨y2.heap.size, 1, none⟩ = false := (by first | (simp [go_sem, *]; done) | fail)); (try have ys12 : (y3.cell? ⟨y2.heap.size, 2, none⟩).isSome = true := (by first | (simp [go_sem, *]; done) | fail)); (try have yf12 : y3.frozen? ⟨y2.heap.size, 2, none⟩ = false := (by first | (simp [go_sem, *]; done) | fail)); (try have ys13 : (y3.cell? ⟨y2.heap.size, 3, none⟩).isSome = true := (by first | (simp [go_sem, *]; done) | fail)); (try have yf13 : y3.frozen? ⟨y2.heap.size, 3, none⟩ = false := (by first | (simp [go_sem, *]; done) | fail)); (try have ys14 : (y3.cell? ⟨y2.heap.size, 4, none⟩).isSome = true := (by first | (simp [go_sem, *]; done) | fail)); (try have yf14 : y3.frozen? ⟨y2.heap.size, 4, none⟩ = false := (by first | (simp [go_sem, *]; done) | fail)); (try have ys15 : (y3.cell? ⟨y2.heap.size, 5, none⟩).isSome = true := (by first | (simp [go_sem, *]; done) | fail)); (try have yf15 : y3.frozen? ⟨y2.heap.size, 5, none⟩ = false := (by first | (simp [go_sem, *]; done) | fail))))
    · repeat (first | go_values | go_skip | go_guarded | go_step | go_upon)
      go_meet
      case rel =>
        refine ⟨_, ao', c', a4, p4', ts, rfl, rfl, ⟨by simp [go_sem, *], by simp [go_sem, *], by simp [go_sem, *], by simp [go_sem, *], by simp [go_sem, *], by simp [go_sem, *], by simp; try omega⟩, by (repeat (first | with_reducible exact kwy3 | with_reducible apply But.drewN | with_reducible apply But.drew | with_reducible apply But.alloc | (with_reducible refine But.setNew ?_ (by simp; try omega) _))), hst, ?_, ?_, ?_⟩
        · exact VoiceO.mono (VoiceO.kept o2 ((But.refl _ _ _).alloc _)) (by omega) (by simp; try omega)
        · exact NumO.mono (NumO.kept hno ((But.refl _ _ _).alloc _)) (by omega) (by simp; try omega)
        · exact fun i p hp => ap_low (o2.inn i p hp) hno (.inl (by omega))
    · repeat (first | go_values | go_skip | go_guarded | go_step | go_upon)
      go_meet
      case rel =>
        refine ⟨_, ao', c', a4, p4', ts, rfl, rfl, ⟨by simp [go_sem, *], by simp [go_sem, *], by simp [go_sem, *], by simp [go_sem, *], by simp [go_sem, *], by simp [go_sem, *], by simp; try omega⟩, by (repeat (first | with_reducible exact kwy3 | with_reducible apply But.drewN | with_reducible apply But.drew | with_reducible apply But.alloc | (with_reducible refine But.setNew ?_ (by simp; try omega) _))), hst, ?_, ?_, ?_⟩
        · exact VoiceO.mono (VoiceO.but (lo' := y2.heap.size) (hi' := y2.heap.size + 1) o2 (((((((But.refl _ _ _).setCell (by simp) (by simp) _).setCell (by simp) (by simp) _).setCell (by simp) (by simp) _).setCell (by simp) (by simp) _).setCell (by simp) (by simp) _).setCell (by simp) (by simp) _) (by omega)) (by omega) (by simp; try omega)
        · exact NumO.mono (NumO.but (lo' := y2.heap.size) (hi' := y2.heap.size + 1) hno (((((((But.refl _ _ _).setCell (by simp) (by simp) _).setCell (by simp) (by simp) _).setCell (by simp) (by simp) _).setCell (by simp) (by simp) _).setCell (by simp) (by simp) _).setCell (by simp) (by simp) _) (by omega)) (by omega) (by simp; try omega)
        · exact fun i p hp => ap_low (o2.inn i p hp) hno (.inl (by omega))
    · repeat (first | go_values | go_skip | go_guarded | go_step | go_upon)
      go_meet
      case rel =>
        refine ⟨_, ao', c', a4, p4', ts, rfl, rfl, ⟨by simp [go_sem, *], by simp [go_sem, *], by simp [go_sem, *], by simp [go_sem, *], by simp [go_sem, *], by simp [go_sem, *], by simp; try omega⟩, by (repeat (first | with_reducible exact kwy3 | with_reducible apply But.drewN | with_reducible apply But.drew | with_reducible apply But.alloc | (with_reducible refine But.setNew ?_ (by simp; try omega) _))), hst, ?_, ?_, ?_⟩
        · exact VoiceO.mono (VoiceO.but (lo' := w2.heap.size) (hi' := w2.heap.size + 1) o2 (((((((But.refl _ _ _).setCell (by simp) (by simp) _).setCell (by simp) (by simp) _).setCell (by simp) (by simp) _).setCell (by simp) (by simp) _).setCell (by simp) (by simp) _).setCell (by simp) (by simp) _) (by omega)) (by omega) (by simp; try omega)
        · exact NumO.mono (NumO.but (lo' := w2.heap.size) (hi' := w2.heap.size + 1) hno (((((((But.refl _ _ _).setCell (by simp) (by simp) _).setCell (by simp) (by simp) _).setCell (by simp) (by simp) _).setCell (by simp) (by simp) _).setCell (by simp) (by simp) _).setCell (by simp) (by simp) _) (by omega)) (by omega) (by simp; try omega)
        · exact fun i p hp => ap_low (o2.inn i p hp) hno (.inl (by omega))
  case rest =>
    obtain ⟨gw, ao', c', a4, p4', ts, rfl, rfl, LR, k3, hst, hO3, hN3, hap⟩ := hcut
    rename World => w3
    have htl : ts.length = ds.length := by
      have := congrArg List.length hst
      simpa using this
    have HTS : Hid (ts.map stripVoice = ds ∧ ts.length = ds.length) := ⟨hst, htl⟩
    have HAP : Hid (∀ (i : Nat) (p : VoiceE), ts[i]? = some p → Ap p.1.1 (.slice a4 l.length p4')) := hap
    have HK3 : Hid (Kept w2 w3) := k3
    have HO3 : Hid (VoiceO w3 w2.heap.size w3.heap.size (.slice ao' ds.length c') ts) := hO3
    have HN3 : Hid (NumO w3 w2.heap.size w3.heap.size (.slice a4 l.length p4') l) := hN3
    have hds8 : ds.length ≤ 8 := hP.1
    have hs3 := k3.size
    clear p0 p1 p2 p3 p4 p5 hap k3 hO3 hN3
    have p0 := LR.1
    have p1 := LR.2.1
    have p2 := LR.2.2.1
    have p3 := LR.2.2.2.1
    have p4 := LR.2.2.2.2.1
    have p5 := LR.2.2.2.2.2.1
    have pl := LR.2.2.2.2.2.2
    by_cases h8 : ds.length < 8
    · have d8 : decide ((ds.length : Int) < 8) = true := by simp; omega
      obtain ⟨i0, hi0, hz0, hz1, hz2⟩ := info_parts infoV
      repeat (first | (at_builtin; refine forgetL (fun w' => w' = _) rfl ?_) | go_values | go_skip | go_guarded | go_step | go_upon)
      intro W7 hW7
      have K7 : Kept w3 W7 := by rw [hW7]; exact (But.refl _ _ _).alloc _
      have N7 : Loc W7 w3.heap.size (voiceC ((.slice a4 l.length p4', l), a, lp, lf, rt, rk)) := by rw [hW7]; exact Loc.new w3 _ _
      have s7 := K7.size
      have hO7 := (HO3.out.kept K7).mono (Nat.le_refl _) s7
      have hN7 := (HN3.out.kept K7).mono (Nat.le_refl _) s7
      clear hW7
      refine wpList_append_own _ rfl _ _ 35 rfl w2.heap.size 27 i0 (.agg #[.slice none 0 0, .int .i64 0, .bool false, .int .i64 0, .int .i64 0, .int .i64 0]) 6 64 Try.underlying35 hi0 hz0 hz1 hz2 rfl (by decide) (.slice ao' ds.length c') ds.length (ts.flatMap voiceC) rfl (by have := hO7.row.1; rw [HTS.out.2] at this; exact this) ⟨w3.heap.size, 0, none⟩ 1 1 (voiceC ((.slice a4 l.length p4', l), a, lp, lf, rt, rk)) rfl rfl (news_voice N7) (one_voice _ _ _ _ _ _ _ _ _) (by unfold maxLen; omega) (by omega) (by omega) ?_
      intro v' w8 hown' hgrow _
      obtain ⟨hV8, hk8⟩ := app_voice hO7 HTS.out.2 hN7 HAP.out hown' hgrow
      obtain ⟨ao5, cap5, hf5, _⟩ := own_form hown'
      subst hf5
      have HV8 : Hid (VoiceO w8 w2.heap.size w8.heap.size (.slice ao5 (ds.length + 1) cap5) (ts ++ [((.slice a4 l.length p4', l), a, lp, lf, rt, rk)])) := hV8
      have HK8 : Hid (Kept w2 w8) := hk8 w2 (HK3.out.trans K7) (Nat.le_refl _)
      clear hgrow hown' hV8 hk8 hO7 hN7 N7 K7 HO3 HN3 HK3
      dsimp only
      repeat (first | go_values | go_skip | go_guarded | go_step | go_upon)
      go_returns
      have hT : takeR ds (l, a, lp, lf, rt, rk) = (ds ++ [(l, a, lp, lf, rt, rk)], -1) := by rw [takeR, if_pos h8]
      rw [hT]
      refine ⟨.slice ao5 (ds.length + 1) cap5, rfl, ⟨ts ++ [((.slice a4 l.length p4', l), a, lp, lf, rt, rk)], HV8.out.mono (by omega) (Nat.le_refl _), ?_⟩, HW2.out.trans HK8.out⟩
      rw [List.map_append, HTS.out.1]
      rfl
    · have d8 : decide ((ds.length : Int) < 8) = false := by simp; omega
      have hAT : VoicesAt w3 (.slice ao' ds.length c') ds := ⟨ts, HO3.out.at, hst⟩
      repeat (first | go_values | go_skip | go_guarded | go_step | go_upon)
      go_at_call 60
      refine (ileast ds _ _ hAT (by omega) (by omega)).mono ?_
      rintro e w4 ⟨rfl, k4⟩
      have hmk := lst_lt ds ds.length (by omega)
      obtain ⟨m, hm⟩ : ∃ m, lst ds ds.length = m := ⟨_, rfl⟩
      have HTR : Hid (takeR ds (l, a, lp, lf, rt, rk) = if rk < rkN ds m then (ds, -2) else (ds.set m (l, a, lp, lf, rt, rk), ((m : Nat) : Int))) := by show _ = _; rw [takeR, if_neg h8, hm]
      rw [hm] at hmk ⊢
      obtain ⟨dm, hdm⟩ : ∃ p, ds[m]? = some p := ⟨_, List.getElem?_eq_getElem hmk⟩
      obtain ⟨b, o, cap', s', ee, e0, e1, e2, e3, e4, e5, _⟩ := (hAT.kept k4).get hdm
      obtain ⟨y, hy⟩ : ∃ p, ts[m]? = some p := ⟨_, List.getElem?_eq_getElem (by omega)⟩
      have hr := rk_at hdm
      rw [hr] at HTR
      obtain ⟨g', cg, hfm, _⟩ : ∃ g cap', Value.slice ao' ds.length c' = .slice (some ⟨g, 0, none⟩) ds.length cap' ∧ True := by
        rcases HO3.out.row.1.2 with ⟨hf, _⟩ | ⟨g, c2, cur, hf, _⟩
        · injection hf with _ e9; omega
        · rw [htl] at hf; exact ⟨g, c2, hf, trivial⟩
      cases hfm
      cases ee
      obtain ⟨l', a', lp', lf', rt', rk'⟩ := dm
      dsimp only at e5 HTR
      simp only [Nat.zero_add] at e5
      have LR4 := LR.kept k4
      clear p0 p1 p2 p3 p4 p5 pl
      have p0 := LR4.1
      have p1 := LR4.2.1
      have p2 := LR4.2.2.1
      have p3 := LR4.2.2.2.1
      have p4 := LR4.2.2.2.2.1
      have p5 := LR4.2.2.2.2.2.1
      have pl := LR4.2.2.2.2.2.2
      have hgw : b < w4.heap.size := World.block_lt_of_cell? _ _ e0
      have z0 : (0 : Int) ≤ (m : Int) := by omega
      have z1 : (m : Int) < (ds.length : Int) := by omega
      have HK4 : Hid (Kept w3 w4) := k4
      clear hdm hr e0 e1 e2 e3 e4 hAT d8
      dsimp only
      by_cases hq : rk < rk'
      · have hdq : decide (rk < rk') = true := decide_eq_true hq
        repeat (first | go_values | go_skip | go_guarded | go_step | go_upon)
        refine wp_region_kept (by kernel_rfl) (by kernel_rfl) ?_
        have hcc := @KW.cell_eq
        repeat (go_big_quiet_step (first | fail))
        refine wpQuiet_nil ?_
        rintro w5 ⟨⟨w8, k5⟩, h9⟩
        change w5 = w8 at h9
        subst h9
        clear hcc
        repeat (first | go_values | go_skip | go_guarded | go_step | go_upon)
        go_returns
        rw [HTR.out, if_pos hq]
        refine ⟨.slice (some ⟨b, 0, none⟩) ds.length c', rfl, ?_, ?_⟩
        · have h9 := (HO3.out.kept (HK4.out.trans k5)).mono (Nat.le_refl _) (HK4.out.trans k5).size
          exact ⟨ts, h9.mono (by omega) (Nat.le_refl _), hst⟩
        · exact HW2.out.trans (HK3.out.trans (HK4.out.trans k5))
      · have hdq : decide (rk < rk') = false := decide_eq_false hq
        repeat (first | go_values | go_skip | go_guarded | go_step | go_upon)
        refine wp_region_kept (by kernel_rfl) (by kernel_rfl) ?_
        have hcc := @KW.cell_eq
        repeat (go_big_quiet_step (first | fail))
        refine wpQuiet_nil ?_
        rintro w5 ⟨⟨w8, k5⟩, h9⟩
        change w5 = w8 at h9
        subst h9
        clear hcc
        have p0 := Kept.cell k5 p0
        have p1 := Kept.cell k5 p1
        have p2 := Kept.cell k5 p2
        have p3 := Kept.cell k5 p3
        have p4 := Kept.cell k5 p4
        have p5 := Kept.cell k5 p5
        have HK5 : Hid (Kept w2 w5) := HK3.out.trans (HK4.out.trans k5)
        have O6 := (HO3.out.kept (HK4.out.trans k5)).mono (Nat.le_refl _) (HK4.out.trans k5).size
        have HN4 := (HN3.out.kept (HK4.out.trans k5)).mono (Nat.le_refl _) (HK4.out.trans k5).size
        have HAP4 := HAP.out
        have hgg := (own_lt HO3.out.row.1 (g := b) rfl).1
        have HTL := htl.symm
        have hmt : m < ts.length := by omega
        have x0 := (O6.cells hy).1 0 _ rfl
        have xf0 := (O6.cells hy).2 (m * 6)
        simp only [Nat.add_zero] at x0
        have X0 := O6.put0 HTL hy (.slice a4 l.length p4') l HN4 HAP4
        have t0 : ts.set m ((.slice a4 l.length p4', l), y.2) = ts.set m ((.slice a4 l.length p4', l), y.2) := rfl
        have g1 : (ts.set m ((.slice a4 l.length p4', l), y.2))[m]? = some ((.slice a4 l.length p4', l), y.2) := get_self _ hmt
        have x1 := (X0.cells g1).1 1 _ rfl
        have xf1 := (X0.cells g1).2 (m * 6 + 1)
        have X1 := X0.put (by rw [List.length_set]; exact HTL) g1 1 (by omega) (.int .i64 a) ((.slice a4 l.length p4', l), a, y.2.2) rfl rfl
        rw [set2] at X1
        have g2 : (ts.set m ((.slice a4 l.length p4', l), a, y.2.2))[m]? = some ((.slice a4 l.length p4', l), a, y.2.2) := get_self _ hmt
        have x2 := (X1.cells g2).1 2 _ rfl
        have xf2 := (X1.cells g2).2 (m * 6 + 2)
        have X2 := X1.put (by rw [List.length_set]; exact HTL) g2 2 (by omega) (.bool lp) ((.slice a4 l.length p4', l), a, lp, y.2.2.2) rfl rfl
        rw [set2] at X2
        have g3 : (ts.set m ((.slice a4 l.length p4', l), a, lp, y.2.2.2))[m]? = some ((.slice a4 l.length p4', l), a, lp, y.2.2.2) := get_self _ hmt
        have x3 := (X2.cells g3).1 3 _ rfl
        have xf3 := (X2.cells g3).2 (m * 6 + 3)
        have X3 := X2.put (by rw [List.length_set]; exact HTL) g3 3 (by omega) (.int .i64 lf) ((.slice a4 l.length p4', l), a, lp, lf, y.2.2.2.2) rfl rfl
        rw [set2] at X3
        have g4 : (ts.set m ((.slice a4 l.length p4', l), a, lp, lf, y.2.2.2.2))[m]? = some ((.slice a4 l.length p4', l), a, lp, lf, y.2.2.2.2) := get_self _ hmt
        have x4 := (X3.cells g4).1 4 _ rfl
        have xf4 := (X3.cells g4).2 (m * 6 + 4)
        have X4 := X3.put (by rw [List.length_set]; exact HTL) g4 4 (by omega) (.int .i64 rt) ((.slice a4 l.length p4', l), a, lp, lf, rt, y.2.2.2.2.2) rfl rfl
        rw [set2] at X4
        have g5 : (ts.set m ((.slice a4 l.length p4', l), a, lp, lf, rt, y.2.2.2.2.2))[m]? = some ((.slice a4 l.length p4', l), a, lp, lf, rt, y.2.2.2.2.2) := get_self _ hmt
        have x5 := (X4.cells g5).1 5 _ rfl
        have xf5 := (X4.cells g5).2 (m * 6 + 5)
        have X5 := X4.put (by rw [List.length_set]; exact HTL) g5 5 (by omega) (.int .i64 rk) ((.slice a4 l.length p4', l), a, lp, lf, rt, rk) rfl rfl
        rw [set2] at X5
        clear t0 g1 g2 g3 g4 g5
        have HX : Hid (VoiceO _ w2.heap.size w5.heap.size (.slice (some ⟨b, 0, none⟩) ds.length c') (ts.set m (((.slice a4 l.length p4'), l), a, lp, lf, rt, rk))) := X5
        clear X0 X1 X2 X3 X4 X5 HAP4 HN4 O6 HTL k5
        repeat (first | go_values | go_skip | go_guarded | go_step | go_upon)
        go_returns
        rw [HTR.out, if_neg hq]
        refine ⟨.slice (some ⟨b, 0, none⟩) ds.length c', rfl, ?_, ?_⟩
        · exact ⟨_, (HX.out.low).mono (by omega) (Nat.le_refl _), by rw [List.map_set, hst]; rfl⟩
        · exact (((((((HW2.out.trans HK5.out).setNew (by simp; omega) _).setNew (by simp; omega) _).setNew (by simp; omega) _).setNew (by simp; omega) _).setNew (by simp; omega) _).setNew (by simp; omega) _)

end Go.Proofs.Ytapfafibhjpkdaa
