/-
  At every two bodies and every bounce the program's PushPair answers what the specification's PushPair answers.
-/
import Derived.Test.YthpjjpgahmkpdaaRows
import Derived.Test.YthpjjpgahmkpdaaSPair10
import Derived.Test.YthpjjpgahmkpdaaIPP10
import Derived.Test.YthpjjpgahmkpdaaTo
import Derived.Test.YthpjjpgahmkpdaaEq
import Derived.Test.YthpjjpgahmkpdaaOpen
import Derived.Test.YthpjjpgahmkpdaaQuiet
import Derived.ChangeMaps
import Derived.Deep.CutBlock
import Derived.Deep.CutRange
import Derived.Deep.DeepCutAuto
import Derived.Deep.RegionHeld3
namespace Go.Proofs.Ythpjjpgahmkpdaa.fnExactPushPair
open Go.ChangeShapes Go.WideShapes Go.ChangeAt Go.RowKit
set_option linter.unusedVariables false

theorem own : ownKnob Try.prog.godebug = none := by kernel_rfl

set_option maxRecDepth 100000
set_option linter.unusedVariables false
theorem toBodyK (x p m r : Int) (w : World) : Calls Try.prog 29 #[.agg #[.int .i64 x, .int .i64 p, .int .i64 m, .int .i64 r]] w fun e w' => e = .returned (.agg #[.int .i64 x, .int .i64 p, .int .i64 m, .int .i64 r]) ∧ Kept w w' := by
  go_enter Try.func29, Try.ntmps29
  go_wp2
  refine bodyPost_ret (v := .agg #[.int .i64 x, .int .i64 p, .int .i64 m, .int .i64 r]) (by simp [results, Try.results29, go_sem]) rfl ?_
  exact ⟨rfl, by (repeat (first | with_reducible exact But.refl _ _ _ | with_reducible apply But.drewN | with_reducible apply But.drew | with_reducible apply But.alloc | (with_reducible refine But.setNew ?_ (by simp +arith) _)))⟩

set_option maxHeartbeats 64000000 in
theorem walk (x p m r y q k s bo u0 u1 u2 u3 v0 v1 v2 v3 : Int) (J : Bool) (w : World)
    (hS : ∀ W : World, Calls Try.prog 28 #[.agg #[.int .i64 x, .int .i64 p, .int .i64 m, .int .i64 r], .agg #[.int .i64 y, .int .i64 q, .int .i64 k, .int .i64 s], .int .i64 bo] W fun e w' => e = .returned (.tuple #[.agg #[.int .i64 u0, .int .i64 u1, .int .i64 u2, .int .i64 u3], .agg #[.int .i64 v0, .int .i64 v1, .int .i64 v2, .int .i64 v3], .bool J]) ∧ Kept W w')
    (hI : ∀ W : World, Calls Try.prog 30 #[.agg #[.int .i64 x, .int .i64 p, .int .i64 m, .int .i64 r], .agg #[.int .i64 y, .int .i64 q, .int .i64 k, .int .i64 s], .int .i64 bo] W fun e w' => e = .returned (.tuple #[.agg #[.int .i64 u0, .int .i64 u1, .int .i64 u2, .int .i64 u3], .agg #[.int .i64 v0, .int .i64 v1, .int .i64 v2, .int .i64 v3], .bool J]) ∧ Kept W w') :
    Calls Try.prog 6 #[.agg #[.int .i64 x, .int .i64 p, .int .i64 m, .int .i64 r], .agg #[.int .i64 y, .int .i64 q, .int .i64 k, .int .i64 s], .int .i64 bo] w fun e w' => e = .returned (.bool true) ∧ Kept w w' := by
  have HS : Hid (∀ W : World, Calls Try.prog 28 #[.agg #[.int .i64 x, .int .i64 p, .int .i64 m, .int .i64 r], .agg #[.int .i64 y, .int .i64 q, .int .i64 k, .int .i64 s], .int .i64 bo] W fun e w' => e = .returned (.tuple #[.agg #[.int .i64 u0, .int .i64 u1, .int .i64 u2, .int .i64 u3], .agg #[.int .i64 v0, .int .i64 v1, .int .i64 v2, .int .i64 v3], .bool J]) ∧ Kept W w') := hS
  have HI : Hid (∀ W : World, Calls Try.prog 30 #[.agg #[.int .i64 x, .int .i64 p, .int .i64 m, .int .i64 r], .agg #[.int .i64 y, .int .i64 q, .int .i64 k, .int .i64 s], .int .i64 bo] W fun e w' => e = .returned (.tuple #[.agg #[.int .i64 u0, .int .i64 u1, .int .i64 u2, .int .i64 u3], .agg #[.int .i64 v0, .int .i64 v1, .int .i64 v2, .int .i64 v3], .bool J]) ∧ Kept W w') := hI
  clear hS hI
  go_enter Try.func6, Try.ntmps6
  go_upto_region 1 with fail
  obtain ⟨W0, hW0⟩ : ∃ W, W = ((w.alloc (.cells #[.int .i64 x, .int .i64 p, .int .i64 m, .int .i64 r] 49)).alloc (.cells #[.int .i64 y, .int .i64 q, .int .i64 k, .int .i64 s] 49)) := ⟨_, rfl⟩
  have KW0 : Kept w W0 := by rw [hW0]; exact ((But.refl _ _ _).alloc _).alloc _
  obtain ⟨A, hAd⟩ : ∃ A, A = w.heap.size := ⟨_, rfl⟩
  obtain ⟨B, hBd⟩ : ∃ B, B = w.heap.size + 1 := ⟨_, rfl⟩
  have LA : Loc W0 A [.int .i64 x, .int .i64 p, .int .i64 m, .int .i64 r] := by rw [hW0, hAd]; exact (Loc.new w _ _).alloc _
  have LB : Loc W0 B [.int .i64 y, .int .i64 q, .int .i64 k, .int .i64 s] := by
    rw [hW0, hBd]
    have := Loc.new (w.alloc (Obj.cells #[.int .i64 x, .int .i64 p, .int .i64 m, .int .i64 r] 49)) [.int .i64 y, .int .i64 q, .int .i64 k, .int .i64 s] 49
    simpa using this
  rw [← hW0, ← hBd, ← hAd]
  clear hW0 hAd hBd
  have nA : W0.heap.size < W0.heap.size + 1 + 1 := by omega
  have a0 := LA.cell 0 rfl
  have b0 := LB.cell 0 rfl
  have a1 := LA.cell 1 rfl
  have b1 := LB.cell 1 rfl
  have a2 := LA.cell 2 rfl
  have b2 := LB.cell 2 rfl
  have a3 := LA.cell 3 rfl
  have b3 := LB.cell 3 rfl
  have al := LA.lt
  have bl := LB.lt
  go_cut [7, 8, 9] from 13 to 22 (fun ta tb tc wx => ∃ X Y : Nat, ta = .pointer (some ⟨X, 0, none⟩) ∧ tb = .pointer (some ⟨Y, 0, none⟩) ∧ tc = .bool J ∧ wx.cell? ⟨X, 0, none⟩ = some (.int .i64 u0) ∧ wx.cell? ⟨X, 1, none⟩ = some (.int .i64 u1) ∧ wx.cell? ⟨X, 2, none⟩ = some (.int .i64 u2) ∧ wx.cell? ⟨X, 3, none⟩ = some (.int .i64 u3) ∧ wx.cell? ⟨Y, 0, none⟩ = some (.int .i64 v0) ∧ wx.cell? ⟨Y, 1, none⟩ = some (.int .i64 v1) ∧ wx.cell? ⟨Y, 2, none⟩ = some (.int .i64 v2) ∧ wx.cell? ⟨Y, 3, none⟩ = some (.int .i64 v3) ∧ Kept W0 wx)
  case first =>
    go_region_held3 (fun w' => w'.cell? ⟨A, 0, none⟩ = some (.int .i64 x) ∧ w'.cell? ⟨A, 1, none⟩ = some (.int .i64 p) ∧ w'.cell? ⟨A, 2, none⟩ = some (.int .i64 m) ∧ w'.cell? ⟨A, 3, none⟩ = some (.int .i64 r) ∧ w'.cell? ⟨B, 0, none⟩ = some (.int .i64 y) ∧ w'.cell? ⟨B, 1, none⟩ = some (.int .i64 q) ∧ w'.cell? ⟨B, 2, none⟩ = some (.int .i64 k) ∧ w'.cell? ⟨B, 3, none⟩ = some (.int .i64 s)) (simp [go_sem, *])
      (first | (go_at_call 29; (fail_if_success (have hx := kwy2)); refine (toBodyK _ _ _ _ _).mono ?_; rintro e y2 ⟨rfl, k2⟩; have hcy2 := k2.cell_eq; have hfy2 := k2.frozen_eq; have hzy2 := k2.size; (try simp at hzy2); have kwy2 : Kept W0 y2 := (But.trans (by (repeat (first | with_reducible exact But.refl _ _ _ | with_reducible apply But.drewN | with_reducible apply But.drew | with_reducible apply But.alloc | (with_reducible refine But.setNew ?_ (by first | (simp; done) | (simp; omega)) _)))) k2); have nly2 : W0.heap.size ≤ y2.heap.size := kwy2.size; have n0y2 : A < y2.heap.size := (by omega); have n1y2 : B < y2.heap.size := (by omega); have a0y2 := Kept.cell kwy2 a0; have a1y2 := Kept.cell kwy2 a1; have a2y2 := Kept.cell kwy2 a2; have a3y2 := Kept.cell kwy2 a3; have b0y2 := Kept.cell kwy2 b0; have b1y2 := Kept.cell kwy2 b1; have b2y2 := Kept.cell kwy2 b2; have b3y2 := Kept.cell kwy2 b3; (try have m0y2 : W0.heap.size < y2.heap.size := (by omega)); (try have m0y2p : W0.heap.size < y2.heap.size + 1 := (by omega)); (try have m1y2 : W0.heap.size + 1 < y2.heap.size := (by omega)); (try have m1y2p : W0.heap.size + 1 < y2.heap.size + 1 := (by omega)); have nAy2 : y2.heap.size < y2.heap.size + 1 + 1 := (by omega))
             | (go_at_call 29; refine (toBodyK _ _ _ _ _).mono ?_; rintro e y3 ⟨rfl, k3⟩; have hcy3 := k3.cell_eq; have hfy3 := k3.frozen_eq; have hzy3 := k3.size; (try simp at hzy3); have kwy3 : Kept W0 y3 := (But.trans (by (repeat (first | with_reducible exact kwy2 | with_reducible apply But.drewN | with_reducible apply But.drew | with_reducible apply But.alloc | (with_reducible refine But.setNew ?_ (by first | (simp; done) | (simp; omega)) _)))) k3); have nly3 : W0.heap.size ≤ y3.heap.size := kwy3.size; have n0y3 : A < y3.heap.size := (by omega); have n1y3 : B < y3.heap.size := (by omega); have a0y3 := Kept.cell kwy3 a0; have a1y3 := Kept.cell kwy3 a1; have a2y3 := Kept.cell kwy3 a2; have a3y3 := Kept.cell kwy3 a3; have b0y3 := Kept.cell kwy3 b0; have b1y3 := Kept.cell kwy3 b1; have b2y3 := Kept.cell kwy3 b2; have b3y3 := Kept.cell kwy3 b3; (try have m0y3 : W0.heap.size < y3.heap.size := (by omega)); (try have m0y3p : W0.heap.size < y3.heap.size + 1 := (by omega)); (try have m1y3 : W0.heap.size + 1 < y3.heap.size := (by omega)); (try have m1y3p : W0.heap.size + 1 < y3.heap.size + 1 := (by omega)); (try have m2y3 : y2.heap.size < y3.heap.size := (by omega)); (try have m2y3p : y2.heap.size < y3.heap.size + 1 := (by omega)); (try have m3y3 : y2.heap.size + 1 < y3.heap.size := (by omega)); (try have m3y3p : y2.heap.size + 1 < y3.heap.size + 1 := (by omega)); have nAy3 : y3.heap.size < y3.heap.size + 1 + 1 := (by omega))
             | (go_at_call 28; refine (HS.out _).mono ?_; rintro e y4 ⟨rfl, k4⟩; have hcy4 := k4.cell_eq; have hfy4 := k4.frozen_eq; have hzy4 := k4.size; (try simp at hzy4); have kwy4 : Kept W0 y4 := (But.trans (by (repeat (first | with_reducible exact kwy3 | with_reducible apply But.drewN | with_reducible apply But.drew | with_reducible apply But.alloc | (with_reducible refine But.setNew ?_ (by first | (simp; done) | (simp; omega)) _)))) k4); have nly4 : W0.heap.size ≤ y4.heap.size := kwy4.size; have n0y4 : A < y4.heap.size := (by omega); have n1y4 : B < y4.heap.size := (by omega); have a0y4 := Kept.cell kwy4 a0; have a1y4 := Kept.cell kwy4 a1; have a2y4 := Kept.cell kwy4 a2; have a3y4 := Kept.cell kwy4 a3; have b0y4 := Kept.cell kwy4 b0; have b1y4 := Kept.cell kwy4 b1; have b2y4 := Kept.cell kwy4 b2; have b3y4 := Kept.cell kwy4 b3; (try have m0y4 : W0.heap.size < y4.heap.size := (by omega)); (try have m0y4p : W0.heap.size < y4.heap.size + 1 := (by omega)); (try have m1y4 : W0.heap.size + 1 < y4.heap.size := (by omega)); (try have m1y4p : W0.heap.size + 1 < y4.heap.size + 1 := (by omega)); (try have m2y4 : y2.heap.size < y4.heap.size := (by omega)); (try have m2y4p : y2.heap.size < y4.heap.size + 1 := (by omega)); (try have m3y4 : y2.heap.size + 1 < y4.heap.size := (by omega)); (try have m3y4p : y2.heap.size + 1 < y4.heap.size + 1 := (by omega)); (try have m4y4 : y3.heap.size < y4.heap.size := (by omega)); (try have m4y4p : y3.heap.size < y4.heap.size + 1 := (by omega)); (try have m5y4 : y3.heap.size + 1 < y4.heap.size := (by omega)); (try have m5y4p : y3.heap.size + 1 < y4.heap.size + 1 := (by omega)); (try have ys00 : (y4.cell? ⟨W0.heap.size, 0, none⟩).isSome = true := (by first | (simp [go_sem, *]; done) | fail)); (try have yf00 : y4.frozen? ⟨W0.heap.size, 0, none⟩ = false := (by first | (simp [go_sem, *]; done) | fail)); (try have ys01 : (y4.cell? ⟨W0.heap.size, 1, none⟩).isSome = true := (by first | (simp [go_sem, *]; done) | fail)); (try have yf01 : y4.frozen? ⟨W0.heap.size, 1, none⟩ = false := (by first | (simp [go_sem, *]; done) | fail)); (try have ys02 : (y4.cell? ⟨W0.heap.size, 2, none⟩).isSome = true := (by first | (simp [go_sem, *]; done) | fail)); (try have yf02 : y4.frozen? ⟨W0.heap.size, 2, none⟩ = false := (by first | (simp [go_sem, *]; done) | fail)); (try have ys03 : (y4.cell? ⟨W0.heap.size, 3, none⟩).isSome = true := (by first | (simp [go_sem, *]; done) | fail)); (try have yf03 : y4.frozen? ⟨W0.heap.size, 3, none⟩ = false := (by first | (simp [go_sem, *]; done) | fail)); (try have ys10 : (y4.cell? ⟨W0.heap.size + 1, 0, none⟩).isSome = true := (by first | (simp [go_sem, *]; done) | fail)); (try have yf10 : y4.frozen? ⟨W0.heap.size + 1, 0, none⟩ = false := (by first | (simp [go_sem, *]; done) | fail)); (try have ys11 : (y4.cell? ⟨W0.heap.size + 1, 1, none⟩).isSome = true := (by first | (simp [go_sem, *]; done) | fail)); (try have yf11 : y4.frozen? ⟨W0.heap.size + 1, 1, none⟩ = false := (by first | (simp [go_sem, *]; done) | fail)); (try have ys12 : (y4.cell? ⟨W0.heap.size + 1, 2, none⟩).isSome = true := (by first | (simp [go_sem, *]; done) | fail)); (try have yf12 : y4.frozen? ⟨W0.heap.size + 1, 2, none⟩ = false := (by first | (simp [go_sem, *]; done) | fail)); (try have ys13 : (y4.cell? ⟨W0.heap.size + 1, 3, none⟩).isSome = true := (by first | (simp [go_sem, *]; done) | fail)); (try have yf13 : y4.frozen? ⟨W0.heap.size + 1, 3, none⟩ = false := (by first | (simp [go_sem, *]; done) | fail)); (try have ys20 : (y4.cell? ⟨y2.heap.size, 0, none⟩).isSome = true := (by first | (simp [go_sem, *]; done) | fail)); (try have yf20 : y4.frozen? ⟨y2.heap.size, 0, none⟩ = false := (by first | (simp [go_sem, *]; done) | fail)); (try have ys21 : (y4.cell? ⟨y2.heap.size, 1, none⟩).isSome = true := (by first | (simp [go_sem, *]; done) | fail)); (try have yf21 : y4.frozen? ⟨y2.heap.size, 1, none⟩ = false := (by first | (simp [go_sem, *]; done) | fail)); (try have ys22 : (y4.cell? ⟨y2.heap.size, 2, none⟩).isSome = true := (by first | (simp [go_sem, *]; done) | fail)); (try have yf22 : y4.frozen? ⟨y2.heap.size, 2, none⟩ = false := (by first | (simp [go_sem, *]; done) | fail)); (try have ys23 : (y4.cell? ⟨y2.heap.size, 3, none⟩).isSome = true := (by first | (simp [go_sem, *]; done) | fail)); (try have yf23 : y4.frozen? ⟨y2.heap.size, 3, none⟩ = false := (by first | (simp [go_sem, *]; done) | fail)); (try have ys30 : (y4.cell? ⟨y2.heap.size + 1, 0, none⟩).isSome = true := (by first | (simp [go_sem, *]; done) | fail)); (try have yf30 : y4.frozen? ⟨y2.heap.size + 1, 0, none⟩ = false := (by first | (simp [go_sem, *]; done) | fail)); (try have ys31 : (y4.cell? ⟨y2.heap.size + 1, 1, none⟩).isSome = true := (by first | (simp [go_sem, *]; done) | fail)); (try have yf31 : y4.frozen? ⟨y2.heap.size + 1, 1, none⟩ = false := (by first | (simp [go_sem, *]; done) | fail)); (try have ys32 : (y4.cell? ⟨y2.heap.size + 1, 2, none⟩).isSome = true := (by first | (simp [go_sem, *]; done) | fail)); (try have yf32 : y4.frozen? ⟨y2.heap.size + 1, 2, none⟩ = false := (by first | (simp [go_sem, *]; done) | fail)); (try have ys33 : (y4.cell? ⟨y2.heap.size + 1, 3, none⟩).isSome = true := (by first | (simp [go_sem, *]; done) | fail)); (try have yf33 : y4.frozen? ⟨y2.heap.size + 1, 3, none⟩ = false := (by first | (simp [go_sem, *]; done) | fail)); (try have ys40 : (y4.cell? ⟨y3.heap.size, 0, none⟩).isSome = true := (by first | (simp [go_sem, *]; done) | fail)); (try have yf40 : y4.frozen? ⟨y3.heap.size, 0, none⟩ = false := (by first | (simp [go_sem, *]; done) | fail)); (try have ys41 : (y4.cell? ⟨y3.heap.size, 1, none⟩).isSome = true := (by first | (simp [go_sem, *]; done) | fail)); (try have yf41 : y4.frozen? ⟨y3.heap.size, 1, none⟩ = false := (by first | (simp [go_sem, *]; done) | fail)); (try have ys42 : (y4.cell? ⟨y3.heap.size, 2, none⟩).isSome = true := (by first | (simp [go_sem, *]; done) | fail)); (try have yf42 : y4.frozen? ⟨y3.heap.size, 2, none⟩ = false := (by first | (simp [go_sem, *]; done) | fail)); (try have ys43 : (y4.cell? ⟨y3.heap.size, 3, none⟩).isSome = true := (by first | (simp [go_sem, *]; done) | fail)); (try have yf43 : y4.frozen? ⟨y3.heap.size, 3, none⟩ = false := (by first | (simp [go_sem, *]; done) | fail)); (try have ys50 : (y4.cell? ⟨y3.heap.size + 1, 0, none⟩).isSome = true := (by first | (simp [go_sem, *]; done) | fail)); (try have yf50 : y4.frozen? ⟨y3.heap.size + 1, 0, none⟩ = false := (by first | (simp [go_sem, *]; done) | fail)); (try have ys51 : (y4.cell? ⟨y3.heap.size + 1, 1, none⟩).isSome = true := (by first | (simp [go_sem, *]; done) | fail)); (try have yf51 : y4.frozen? ⟨y3.heap.size + 1, 1, none⟩ = false := (by first | (simp [go_sem, *]; done) | fail)); (try have ys52 : (y4.cell? ⟨y3.heap.size + 1, 2, none⟩).isSome = true := (by first | (simp [go_sem, *]; done) | fail)); (try have yf52 : y4.frozen? ⟨y3.heap.size + 1, 2, none⟩ = false := (by first | (simp [go_sem, *]; done) | fail)); (try have ys53 : (y4.cell? ⟨y3.heap.size + 1, 3, none⟩).isSome = true := (by first | (simp [go_sem, *]; done) | fail)); (try have yf53 : y4.frozen? ⟨y3.heap.size + 1, 3, none⟩ = false := (by first | (simp [go_sem, *]; done) | fail))))
    all_goals
      repeat (first | go_values | go_skip | go_guarded | go_step | go_upon)
      go_meet
      case rel => exact ⟨_, _, rfl, rfl, rfl, by simp [go_sem, *], by simp [go_sem, *], by simp [go_sem, *], by simp [go_sem, *], by simp [go_sem, *], by simp [go_sem, *], by simp [go_sem, *], by simp [go_sem, *], by (repeat (first | with_reducible exact kwy4 | with_reducible apply But.drewN | with_reducible apply But.drew | with_reducible apply But.alloc | (with_reducible refine But.setNew ?_ (by first | (simp; done) | (simp; omega)) _)))⟩
  case rest =>
    obtain ⟨X, Y, rfl, rfl, rfl, x0, x1, x2, x3, y0, y1, y2, y3, KX⟩ := hcut
    have KV := KW0.trans KX
    have LA := LA.kept KX
    have LB := LB.kept KX
    clear a0 a1 a2 a3 b0 b1 b2 b3 al bl nA KX KW0
    have HX : Hid (wc.cell? ⟨X, 0, none⟩ = some (.int .i64 u0) ∧ wc.cell? ⟨X, 1, none⟩ = some (.int .i64 u1) ∧ wc.cell? ⟨X, 2, none⟩ = some (.int .i64 u2) ∧ wc.cell? ⟨X, 3, none⟩ = some (.int .i64 u3) ∧ wc.cell? ⟨Y, 0, none⟩ = some (.int .i64 v0) ∧ wc.cell? ⟨Y, 1, none⟩ = some (.int .i64 v1) ∧ wc.cell? ⟨Y, 2, none⟩ = some (.int .i64 v2) ∧ wc.cell? ⟨Y, 3, none⟩ = some (.int .i64 v3)) := ⟨x0, x1, x2, x3, y0, y1, y2, y3⟩
    clear x0 x1 x2 x3 y0 y1 y2 y3
    rename World => V
    have a0 := LA.cell 0 rfl
    have b0 := LB.cell 0 rfl
    have a1 := LA.cell 1 rfl
    have b1 := LB.cell 1 rfl
    have a2 := LA.cell 2 rfl
    have b2 := LB.cell 2 rfl
    have a3 := LA.cell 3 rfl
    have b3 := LB.cell 3 rfl
    have al := LA.lt
    have bl := LB.lt
    go_upto_region 2 with fail
    have nA : V.heap.size < V.heap.size + 1 + 1 := by omega
    go_cut [10, 11, 12] from 23 to 32 (fun ta tb tc wx => ∃ X Y : Nat, ta = .pointer (some ⟨X, 0, none⟩) ∧ tb = .pointer (some ⟨Y, 0, none⟩) ∧ tc = .bool J ∧ wx.cell? ⟨X, 0, none⟩ = some (.int .i64 u0) ∧ wx.cell? ⟨X, 1, none⟩ = some (.int .i64 u1) ∧ wx.cell? ⟨X, 2, none⟩ = some (.int .i64 u2) ∧ wx.cell? ⟨X, 3, none⟩ = some (.int .i64 u3) ∧ wx.cell? ⟨Y, 0, none⟩ = some (.int .i64 v0) ∧ wx.cell? ⟨Y, 1, none⟩ = some (.int .i64 v1) ∧ wx.cell? ⟨Y, 2, none⟩ = some (.int .i64 v2) ∧ wx.cell? ⟨Y, 3, none⟩ = some (.int .i64 v3) ∧ Kept V wx)
    case first =>
      go_region_held3 (fun w' => w'.cell? ⟨A, 0, none⟩ = some (.int .i64 x) ∧ w'.cell? ⟨A, 1, none⟩ = some (.int .i64 p) ∧ w'.cell? ⟨A, 2, none⟩ = some (.int .i64 m) ∧ w'.cell? ⟨A, 3, none⟩ = some (.int .i64 r) ∧ w'.cell? ⟨B, 0, none⟩ = some (.int .i64 y) ∧ w'.cell? ⟨B, 1, none⟩ = some (.int .i64 q) ∧ w'.cell? ⟨B, 2, none⟩ = some (.int .i64 k) ∧ w'.cell? ⟨B, 3, none⟩ = some (.int .i64 s)) (simp [go_sem, *])
        (first | (go_at_call 29; (fail_if_success (have hx := kwy2)); refine (toBodyK _ _ _ _ _).mono ?_; rintro e y2 ⟨rfl, k2⟩; have hcy2 := k2.cell_eq; have hfy2 := k2.frozen_eq; have hzy2 := k2.size; (try simp at hzy2); have kwy2 : Kept V y2 := (But.trans (by (repeat (first | with_reducible exact But.refl _ _ _ | with_reducible apply But.drewN | with_reducible apply But.drew | with_reducible apply But.alloc | (with_reducible refine But.setNew ?_ (by first | (simp; done) | (simp; omega)) _)))) k2); have nly2 : V.heap.size ≤ y2.heap.size := kwy2.size; have n0y2 : A < y2.heap.size := (by omega); have n1y2 : B < y2.heap.size := (by omega); have a0y2 := Kept.cell kwy2 a0; have a1y2 := Kept.cell kwy2 a1; have a2y2 := Kept.cell kwy2 a2; have a3y2 := Kept.cell kwy2 a3; have b0y2 := Kept.cell kwy2 b0; have b1y2 := Kept.cell kwy2 b1; have b2y2 := Kept.cell kwy2 b2; have b3y2 := Kept.cell kwy2 b3; (try have m0y2 : V.heap.size < y2.heap.size := (by omega)); (try have m0y2p : V.heap.size < y2.heap.size + 1 := (by omega)); (try have m1y2 : V.heap.size + 1 < y2.heap.size := (by omega)); (try have m1y2p : V.heap.size + 1 < y2.heap.size + 1 := (by omega)); have nAy2 : y2.heap.size < y2.heap.size + 1 + 1 := (by omega))
               | (go_at_call 29; refine (toBodyK _ _ _ _ _).mono ?_; rintro e y3 ⟨rfl, k3⟩; have hcy3 := k3.cell_eq; have hfy3 := k3.frozen_eq; have hzy3 := k3.size; (try simp at hzy3); have kwy3 : Kept V y3 := (But.trans (by (repeat (first | with_reducible exact kwy2 | with_reducible apply But.drewN | with_reducible apply But.drew | with_reducible apply But.alloc | (with_reducible refine But.setNew ?_ (by first | (simp; done) | (simp; omega)) _)))) k3); have nly3 : V.heap.size ≤ y3.heap.size := kwy3.size; have n0y3 : A < y3.heap.size := (by omega); have n1y3 : B < y3.heap.size := (by omega); have a0y3 := Kept.cell kwy3 a0; have a1y3 := Kept.cell kwy3 a1; have a2y3 := Kept.cell kwy3 a2; have a3y3 := Kept.cell kwy3 a3; have b0y3 := Kept.cell kwy3 b0; have b1y3 := Kept.cell kwy3 b1; have b2y3 := Kept.cell kwy3 b2; have b3y3 := Kept.cell kwy3 b3; (try have m0y3 : V.heap.size < y3.heap.size := (by omega)); (try have m0y3p : V.heap.size < y3.heap.size + 1 := (by omega)); (try have m1y3 : V.heap.size + 1 < y3.heap.size := (by omega)); (try have m1y3p : V.heap.size + 1 < y3.heap.size + 1 := (by omega)); (try have m2y3 : y2.heap.size < y3.heap.size := (by omega)); (try have m2y3p : y2.heap.size < y3.heap.size + 1 := (by omega)); (try have m3y3 : y2.heap.size + 1 < y3.heap.size := (by omega)); (try have m3y3p : y2.heap.size + 1 < y3.heap.size + 1 := (by omega)); have nAy3 : y3.heap.size < y3.heap.size + 1 + 1 := (by omega))
               | (go_at_call 30; refine (HI.out _).mono ?_; rintro e y4 ⟨rfl, k4⟩; have hcy4 := k4.cell_eq; have hfy4 := k4.frozen_eq; have hzy4 := k4.size; (try simp at hzy4); have kwy4 : Kept V y4 := (But.trans (by (repeat (first | with_reducible exact kwy3 | with_reducible apply But.drewN | with_reducible apply But.drew | with_reducible apply But.alloc | (with_reducible refine But.setNew ?_ (by first | (simp; done) | (simp; omega)) _)))) k4); have nly4 : V.heap.size ≤ y4.heap.size := kwy4.size; have n0y4 : A < y4.heap.size := (by omega); have n1y4 : B < y4.heap.size := (by omega); have a0y4 := Kept.cell kwy4 a0; have a1y4 := Kept.cell kwy4 a1; have a2y4 := Kept.cell kwy4 a2; have a3y4 := Kept.cell kwy4 a3; have b0y4 := Kept.cell kwy4 b0; have b1y4 := Kept.cell kwy4 b1; have b2y4 := Kept.cell kwy4 b2; have b3y4 := Kept.cell kwy4 b3; (try have m0y4 : V.heap.size < y4.heap.size := (by omega)); (try have m0y4p : V.heap.size < y4.heap.size + 1 := (by omega)); (try have m1y4 : V.heap.size + 1 < y4.heap.size := (by omega)); (try have m1y4p : V.heap.size + 1 < y4.heap.size + 1 := (by omega)); (try have m2y4 : y2.heap.size < y4.heap.size := (by omega)); (try have m2y4p : y2.heap.size < y4.heap.size + 1 := (by omega)); (try have m3y4 : y2.heap.size + 1 < y4.heap.size := (by omega)); (try have m3y4p : y2.heap.size + 1 < y4.heap.size + 1 := (by omega)); (try have m4y4 : y3.heap.size < y4.heap.size := (by omega)); (try have m4y4p : y3.heap.size < y4.heap.size + 1 := (by omega)); (try have m5y4 : y3.heap.size + 1 < y4.heap.size := (by omega)); (try have m5y4p : y3.heap.size + 1 < y4.heap.size + 1 := (by omega)); (try have ys00 : (y4.cell? ⟨V.heap.size, 0, none⟩).isSome = true := (by first | (simp [go_sem, *]; done) | fail)); (try have yf00 : y4.frozen? ⟨V.heap.size, 0, none⟩ = false := (by first | (simp [go_sem, *]; done) | fail)); (try have ys01 : (y4.cell? ⟨V.heap.size, 1, none⟩).isSome = true := (by first | (simp [go_sem, *]; done) | fail)); (try have yf01 : y4.frozen? ⟨V.heap.size, 1, none⟩ = false := (by first | (simp [go_sem, *]; done) | fail)); (try have ys02 : (y4.cell? ⟨V.heap.size, 2, none⟩).isSome = true := (by first | (simp [go_sem, *]; done) | fail)); (try have yf02 : y4.frozen? ⟨V.heap.size, 2, none⟩ = false := (by first | (simp [go_sem, *]; done) | fail)); (try have ys03 : (y4.cell? ⟨V.heap.size, 3, none⟩).isSome = true := (by first | (simp [go_sem, *]; done) | fail)); (try have yf03 : y4.frozen? ⟨V.heap.size, 3, none⟩ = false := (by first | (simp [go_sem, *]; done) | fail)); (try have ys10 : (y4.cell? ⟨V.heap.size + 1, 0, none⟩).isSome = true := (by first | (simp [go_sem, *]; done) | fail)); (try have yf10 : y4.frozen? ⟨V.heap.size + 1, 0, none⟩ = false := (by first | (simp [go_sem, *]; done) | fail)); (try have ys11 : (y4.cell? ⟨V.heap.size + 1, 1, none⟩).isSome = true := (by first | (simp [go_sem, *]; done) | fail)); (try have yf11 : y4.frozen? ⟨V.heap.size + 1, 1, none⟩ = false := (by first | (simp [go_sem, *]; done) | fail)); (try have ys12 : (y4.cell? ⟨V.heap.size + 1, 2, none⟩).isSome = true := (by first | (simp [go_sem, *]; done) | fail)); (try have yf12 : y4.frozen? ⟨V.heap.size + 1, 2, none⟩ = false := (by first | (simp [go_sem, *]; done) | fail)); (try have ys13 : (y4.cell? ⟨V.heap.size + 1, 3, none⟩).isSome = true := (by first | (simp [go_sem, *]; done) | fail)); (try have yf13 : y4.frozen? ⟨V.heap.size + 1, 3, none⟩ = false := (by first | (simp [go_sem, *]; done) | fail)); (try have ys20 : (y4.cell? ⟨y2.heap.size, 0, none⟩).isSome = true := (by first | (simp [go_sem, *]; done) | fail)); (try have yf20 : y4.frozen? ⟨y2.heap.size, 0, none⟩ = false := (by first | (simp [go_sem, *]; done) | fail)); (try have ys21 : (y4.cell? ⟨y2.heap.size, 1, none⟩).isSome = true := (by first | (simp [go_sem, *]; done) | fail)); (try have yf21 : y4.frozen? ⟨y2.heap.size, 1, none⟩ = false := (by first | (simp [go_sem, *]; done) | fail)); (try have ys22 : (y4.cell? ⟨y2.heap.size, 2, none⟩).isSome = true := (by first | (simp [go_sem, *]; done) | fail)); (try have yf22 : y4.frozen? ⟨y2.heap.size, 2, none⟩ = false := (by first | (simp [go_sem, *]; done) | fail)); (try have ys23 : (y4.cell? ⟨y2.heap.size, 3, none⟩).isSome = true := (by first | (simp [go_sem, *]; done) | fail)); (try have yf23 : y4.frozen? ⟨y2.heap.size, 3, none⟩ = false := (by first | (simp [go_sem, *]; done) | fail)); (try have ys30 : (y4.cell? ⟨y2.heap.size + 1, 0, none⟩).isSome = true := (by first | (simp [go_sem, *]; done) | fail)); (try have yf30 : y4.frozen? ⟨y2.heap.size + 1, 0, none⟩ = false := (by first | (simp [go_sem, *]; done) | fail)); (try have ys31 : (y4.cell? ⟨y2.heap.size + 1, 1, none⟩).isSome = true := (by first | (simp [go_sem, *]; done) | fail)); (try have yf31 : y4.frozen? ⟨y2.heap.size + 1, 1, none⟩ = false := (by first | (simp [go_sem, *]; done) | fail)); (try have ys32 : (y4.cell? ⟨y2.heap.size + 1, 2, none⟩).isSome = true := (by first | (simp [go_sem, *]; done) | fail)); (try have yf32 : y4.frozen? ⟨y2.heap.size + 1, 2, none⟩ = false := (by first | (simp [go_sem, *]; done) | fail)); (try have ys33 : (y4.cell? ⟨y2.heap.size + 1, 3, none⟩).isSome = true := (by first | (simp [go_sem, *]; done) | fail)); (try have yf33 : y4.frozen? ⟨y2.heap.size + 1, 3, none⟩ = false := (by first | (simp [go_sem, *]; done) | fail)); (try have ys40 : (y4.cell? ⟨y3.heap.size, 0, none⟩).isSome = true := (by first | (simp [go_sem, *]; done) | fail)); (try have yf40 : y4.frozen? ⟨y3.heap.size, 0, none⟩ = false := (by first | (simp [go_sem, *]; done) | fail)); (try have ys41 : (y4.cell? ⟨y3.heap.size, 1, none⟩).isSome = true := (by first | (simp [go_sem, *]; done) | fail)); (try have yf41 : y4.frozen? ⟨y3.heap.size, 1, none⟩ = false := (by first | (simp [go_sem, *]; done) | fail)); (try have ys42 : (y4.cell? ⟨y3.heap.size, 2, none⟩).isSome = true := (by first | (simp [go_sem, *]; done) | fail)); (try have yf42 : y4.frozen? ⟨y3.heap.size, 2, none⟩ = false := (by first | (simp [go_sem, *]; done) | fail)); (try have ys43 : (y4.cell? ⟨y3.heap.size, 3, none⟩).isSome = true := (by first | (simp [go_sem, *]; done) | fail)); (try have yf43 : y4.frozen? ⟨y3.heap.size, 3, none⟩ = false := (by first | (simp [go_sem, *]; done) | fail)); (try have ys50 : (y4.cell? ⟨y3.heap.size + 1, 0, none⟩).isSome = true := (by first | (simp [go_sem, *]; done) | fail)); (try have yf50 : y4.frozen? ⟨y3.heap.size + 1, 0, none⟩ = false := (by first | (simp [go_sem, *]; done) | fail)); (try have ys51 : (y4.cell? ⟨y3.heap.size + 1, 1, none⟩).isSome = true := (by first | (simp [go_sem, *]; done) | fail)); (try have yf51 : y4.frozen? ⟨y3.heap.size + 1, 1, none⟩ = false := (by first | (simp [go_sem, *]; done) | fail)); (try have ys52 : (y4.cell? ⟨y3.heap.size + 1, 2, none⟩).isSome = true := (by first | (simp [go_sem, *]; done) | fail)); (try have yf52 : y4.frozen? ⟨y3.heap.size + 1, 2, none⟩ = false := (by first | (simp [go_sem, *]; done) | fail)); (try have ys53 : (y4.cell? ⟨y3.heap.size + 1, 3, none⟩).isSome = true := (by first | (simp [go_sem, *]; done) | fail)); (try have yf53 : y4.frozen? ⟨y3.heap.size + 1, 3, none⟩ = false := (by first | (simp [go_sem, *]; done) | fail))))
      all_goals
        repeat (first | go_values | go_skip | go_guarded | go_step | go_upon)
        go_meet
        case rel => exact ⟨_, _, rfl, rfl, rfl, by simp [go_sem, *], by simp [go_sem, *], by simp [go_sem, *], by simp [go_sem, *], by simp [go_sem, *], by simp [go_sem, *], by simp [go_sem, *], by simp [go_sem, *], by (repeat (first | with_reducible exact kwy4 | with_reducible apply But.drewN | with_reducible apply But.drew | with_reducible apply But.alloc | (with_reducible refine But.setNew ?_ (by first | (simp; done) | (simp; omega)) _)))⟩
    case rest =>
      obtain ⟨Z, T, rfl, rfl, rfl, z0, z1, z2, z3, t0, t1, t2, t3, KZ⟩ := hcut
      obtain ⟨x0, x1, x2, x3, y0, y1, y2, y3⟩ := HX.out
      have x0 := Kept.cell KZ x0
      have x1 := Kept.cell KZ x1
      have x2 := Kept.cell KZ x2
      have x3 := Kept.cell KZ x3
      have y0 := Kept.cell KZ y0
      have y1 := Kept.cell KZ y1
      have y2 := Kept.cell KZ y2
      have y3 := Kept.cell KZ y3
      have K5 := KV.trans KZ
      clear a0 a1 a2 a3 b0 b1 b2 b3 al bl nA KZ KV LA LB HX
      repeat (first | go_values | go_skip | go_guarded | go_step | go_upon)
      go_at_call 31
      refine (eqBody u0 u1 u2 u3 _).mono ?_
      rintro e w6 ⟨rfl, k6⟩
      have t0 := Kept.cell k6 t0
      have t1 := Kept.cell k6 t1
      have t2 := Kept.cell k6 t2
      have t3 := Kept.cell k6 t3
      have y0 := Kept.cell k6 y0
      have y1 := Kept.cell k6 y1
      have y2 := Kept.cell k6 y2
      have y3 := Kept.cell k6 y3
      clear x0 x1 x2 x3 z0 z1 z2 z3
      dsimp only
      repeat (first | go_values | go_skip | go_guarded | go_step | go_upon)
      go_at_call 31
      refine (eqBody v0 v1 v2 v3 _).mono ?_
      rintro e w7 ⟨rfl, k7⟩
      dsimp only
      repeat (first | go_values | go_skip | go_guarded | go_step | go_upon)
      go_ret
      exact ⟨rfl, (K5.trans k6).trans k7⟩

theorem all (a b : BodyD) (bo : Int) (w : World) : Calls Try.prog 6 #[.agg (bodyC a).toArray, .agg (bodyC b).toArray, .int .i64 bo] w fun e w' => e = .returned (.bool true) ∧ Kept w w' := by
  obtain ⟨x, p, m, r⟩ := a
  obtain ⟨y, q, k, s⟩ := b
  exact walk x p m r y q k s bo _ _ _ _ _ _ _ _ _ w (fun W => spushpair x p m r y q k s bo W) (fun W => ipushpair x p m r y q k s bo W)


set_option maxRecDepth 100000 in
theorem lifted (os : Os) (started : os.Started) (H : Type) (enc : TypeId × Value → H) :
    ReturnsInHanded {} Try.checked os 6 .any (Rows.fnExactPushPairSpec.pre6 enc Try.prog Try.f6 Rows.fnExactPushPairRow.domain false) (Rows.fnExactPushPairSpec.post enc Try.prog Try.f6 false true false false) := by
  refine returnsInHanded_of_change (C := Try.checked) own started (by kernel_rfl) Try.func6
    (ChangeSpec.witness6 (enc := enc) (C := Try.checked) false ⟨#[], #[.agg #[.int .i64 0, .int .i64 0, .int .i64 0, .int .i64 0], .agg #[.int .i64 0, .int .i64 0, .int .i64 0, .int .i64 0], .int .i64 0], []⟩ 8 (by kernel_rfl) (by kernel_rfl) (by kernel_rfl) (by kernel_rfl)) ?_
  intro W base args ds gs before hval0 hW hcnd _
  have hval : ∀ (j : Nat) t v, Try.f6.params[j]? = some t → args[j]? = some v → Value.okWide Try.prog W .any base t v := hval0
  have hW' := hW
  obtain ⟨p, q, hA0, hV, rfl, hfz, hnd⟩ := hW
  have hA : DataW.TrodAll enc Try.prog W 0 (fun _ => true) true Try.f6.params.toList args.toList ds p := hA0
  rw [Try.params6] at hA hval
  obtain ⟨v0, vs0, d0, ds0, p0, q0, hargs, rfl, rfl, h0, r0⟩ := trodAll_cons hA
  obtain ⟨v1, vs1, d1, ds1, p1, q1, rfl, rfl, rfl, h1, r1⟩ := trodAll_cons r0
  obtain ⟨v2, vs2, d2, ds2, p2, q2, rfl, rfl, rfl, h2, r2⟩ := trodAll_cons r1
  obtain ⟨rfl, rfl, rfl⟩ := trodAll_nil r2
  obtain rfl : args = #[v0, v1, v2] := by cases args; simp_all
  obtain ⟨rfl, rfl⟩ := trodVars_none hV
  obtain ⟨a0, e0⟩ := open_bodyV (hval 0 49 v0 rfl rfl) h0
  subst e0
  obtain ⟨a1, e1⟩ := open_bodyV (hval 1 49 v1 rfl rfl) h1
  subst e1
  obtain ⟨a2, rfl, rfl, rfl, w2⟩ := open_int Try.underlying3 (hval 2 3 v2 rfl rfl) h2
  clear hA0 hval0
  simp only [List.append_nil] at hW'
  refine (all a0 a1 a2 W).mono fun e W' ⟨he, hg⟩ => ?_
  subst he
  exact ⟨_, rfl, post_of_kept (pa := _) (pv := []) hW' (fun _ _ _ => (trodAll_cons_mk (shut_bool Try.underlying4 _) trodAll_mk0)) (fun sp hsp => (trodAll_cons_mk (kept_trod (by kernel_rfl) (of_decide_eq_true (by kernel_rfl)) h0 hg (fun x hx => hW'.lt x (by simp [hx])) (fun x hx => hsp x (by simp [hx]))) (trodAll_cons_mk (kept_trod (by kernel_rfl) (of_decide_eq_true (by kernel_rfl)) h1 hg (fun x hx => hW'.lt x (by simp [hx])) (fun x hx => hsp x (by simp [hx]))) (trodAll_cons_mk (shut_int Try.underlying3 w2) trodAll_mk0)))) (fun _ _ => rfl) hg⟩

theorem over : Rows.fnExactPushPairRow.holds Try.pinned (OpenSpec.ofChange Rows.fnExactPushPairSpec) :=
  OpenClaim.holds_of_wide 6 Try.f6 rfl rfl rfl rfl rfl rfl rfl ⟨rfl, rfl, rfl, rfl, rfl⟩ rfl rfl rfl rfl rfl (by kernel_rfl) Try.func6 (by kernel_rfl)
    (of_decide_eq_true (by kernel_rfl)) (by unfold Func.isWrapper; first | (rw [if_pos (by decide +kernel)]; kernel_rfl) | (rw [if_neg (by decide +kernel)]; exact ⟨rfl, rfl⟩))
    (fun os started H enc _ => lifted os started H enc)

theorem proved : Rows.FnExactPushPairSaid :=
  over
#print axioms proved
end Go.Proofs.Ythpjjpgahmkpdaa.fnExactPushPair
