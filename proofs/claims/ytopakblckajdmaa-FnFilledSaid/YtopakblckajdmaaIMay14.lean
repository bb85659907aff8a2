/-
  Whether a tile could stand at a place, in the program.
-/
import Derived.Test.YtopakblckajdmaaIFit14
import Derived.Deep.CutBlock
import Derived.Deep.CutRange
import Derived.Deep.DeepCutAuto
namespace Go.Proofs.Ytopakblckajdmaa
open Go.ChangeShapes Go.WideShapes Go.ChangeAt Go.RowKit

set_option maxRecDepth 100000
set_option linter.unusedVariables false
/-- A field with its rules, as the program holds them. -/
def TilAt (w : World) (v : Value) (r : RulesD) (f : FieldD) : Prop := ∃ a1 c1 a2 c2 ao cap, v = .agg #[.int .i64 r.1, .slice a1 r.2.1.length c1, .slice a2 r.2.2.length c2, .int .i64 f.1, .int .i64 f.2.1, .slice ao f.2.2.length cap] ∧ LLAt w (.slice a1 r.2.1.length c1) r.2.1 ∧ LLAt w (.slice a2 r.2.2.length c2) r.2.2 ∧ NumAt w (.slice ao f.2.2.length cap) f.2.2
theorem TilAt.kept {w w' : World} {v : Value} {r : RulesD} {f : FieldD} (h : TilAt w v r f) (k : Kept w w') : TilAt w' v r f := by
  obtain ⟨a1, c1, a2, c2, ao, cap, e, h1, h2, h3⟩ := h
  exact ⟨a1, c1, a2, c2, ao, cap, e, h1.kept k, h2.kept k, h3.kept k⟩
/-- A variable of two cells. -/
def Two (w : World) (g : Nat) (x y : Int) : Prop := w.cell? ⟨g, 0, none⟩ = some (.int .i64 x) ∧ w.cell? ⟨g, 1, none⟩ = some (.int .i64 y)
theorem Two.kept {w w' : World} {g : Nat} {x y : Int} (h : Two w g x y) (k : Kept w w') : Two w' g x y := ⟨Kept.cell k h.1, Kept.cell k h.2⟩

set_option maxHeartbeats 8000000 in
theorem imay (tv : Value) (r : RulesD) (f : FieldD) (n t : Int) (w : World) (hv : TilAt w tv r f) (hg : GoodP r f) (h0 : 0 ≤ n) (h1 : n < f.2.2.length) (ht : -1 ≤ t ∧ t < r.1) :
    Calls Try.prog 59 #[tv, .int .i64 n, .int .i64 t] w fun e w' => e = .returned (.bool (dec (FitP r f n t))) ∧ Kept w w' := by
  obtain ⟨a1, c1, a2, c2, ao, cap, hfm, r1, r2, hf⟩ := hv
  subst hfm
  have HG : Hid (GoodP r f) := hg
  have HG2 : Hid (FieldP r.1 f) := hg.2
  have hb1 := hg.2.1
  have hb2 := hg.2.2.1
  have hs := hg.1.1
  have hlen : f.2.2.length ≤ 36 := by have := hg.2.2.2.1; have := mul_in hb1.1 hb1.2 hb2.1 hb2.2; omega
  obtain ⟨A1, hA1⟩ : ∃ x, tileA f (n % f.1 - 1) (n / f.1) (-1) = x := ⟨_, rfl⟩
  obtain ⟨A2, hA2⟩ : ∃ x, tileA f (n % f.1) (n / f.1 - 1) (-1) = x := ⟨_, rfl⟩
  obtain ⟨B1, hB1⟩ : ∃ x, tileA f (n % f.1 + 1) (n / f.1) (-1) = x := ⟨_, rfl⟩
  obtain ⟨B2, hB2⟩ : ∃ x, tileA f (n % f.1) (n / f.1 + 1) (-1) = x := ⟨_, rfl⟩
  have HA1 : Hid (tileA f (n % f.1 - 1) (n / f.1) (-1) = A1) := hA1
  have HA2 : Hid (tileA f (n % f.1) (n / f.1 - 1) (-1) = A2) := hA2
  have HB1 : Hid (tileA f (n % f.1 + 1) (n / f.1) (-1) = B1) := hB1
  have HB2 : Hid (tileA f (n % f.1) (n / f.1 + 1) (-1) = B2) := hB2
  have bA1 := tile_bd hg.2 (n % f.1 - 1) (n / f.1) (by omega)
  have bA2 := tile_bd hg.2 (n % f.1) (n / f.1 - 1) (by omega)
  rw [hA1] at bA1
  rw [hA2] at bA2
  have HFP : Hid (FitP r f n t ↔ Fol r.2.1 A1 t ∧ Fol r.2.1 t B1 ∧ Fol r.2.2 A2 t ∧ Fol r.2.2 t B2) := by
    show FitP r f n t ↔ _
    unfold FitP FitQ
    rw [hA1, hA2, hB1, hB2]
  clear hA1 hA2 hB1 hB2 hg hlen
  go_enter Try.func59, Try.ntmps59
  go_upto_region 1 with fail
  obtain ⟨W, hW⟩ : ∃ x, x = w.alloc (.cells #[.int .i64 r.1, .slice a1 r.2.1.length c1, .slice a2 r.2.2.length c2, .int .i64 f.1, .int .i64 f.2.1, .slice ao f.2.2.length cap] 66) := ⟨_, rfl⟩
  have kz : Kept w W := by rw [hW]; exact (But.refl _ _ _).alloc _
  have L0 : Loc W w.heap.size [.int .i64 r.1, .slice a1 r.2.1.length c1, .slice a2 r.2.2.length c2, .int .i64 f.1, .int .i64 f.2.1, .slice ao f.2.2.length cap] := by rw [hW]; exact Loc.new _ _ _
  rw [← hW]
  clear hW
  have r1 := r1.kept kz
  have r2 := r2.kept kz
  have hfa : FieldAt W (.agg #[.int .i64 f.1, .int .i64 f.2.1, .slice ao f.2.2.length cap]) f := ⟨_, rfl, hf.kept kz⟩
  have p3 := L0.cell 3 rfl
  have p4 := L0.cell 4 rfl
  have p5 := L0.cell 5 rfl
  have pl := L0.lt
  have nA : W.heap.size < W.heap.size + 1 + 1 := by omega
  go_cut [7, 8] from 9 to 16 (fun v7 v8 wx => ∃ g1 g2, v7 = .pointer (some ⟨g1, 0, none⟩) ∧ v8 = .pointer (some ⟨g2, 0, none⟩) ∧ Two wx g1 A1 A2 ∧ Two wx g2 B1 B2 ∧ Kept W wx)
  case first =>
    go_region_held3 (fun w' => w'.cell? ⟨w.heap.size, 3, none⟩ = some (.int .i64 f.1) ∧ w'.cell? ⟨w.heap.size, 4, none⟩ = some (.int .i64 f.2.1) ∧ w'.cell? ⟨w.heap.size, 5, none⟩ = some (.slice ao f.2.2.length cap)) (simp [go_sem, *])
      (first | (go_at_call 65; refine (iahead _ f r.1 n (-1) _ (FieldAt.kept hfa (by (repeat (first | with_reducible exact But.refl _ _ _ | with_reducible apply But.drewN | with_reducible apply But.drew | with_reducible apply But.alloc | (with_reducible refine But.setNew ?_ (by simp; try omega) _))))) HG2.out h0 h1).mono ?_; rintro e y2 ⟨rfl, k2⟩; rw [HA1.out, HA2.out]; have hcy2 := k2.cell_eq; have hfy2 := k2.frozen_eq; have hzy2 := k2.size; (try simp at hzy2); have kwy2 : Kept W y2 := (But.trans (by (repeat (first | with_reducible exact But.refl _ _ _ | with_reducible apply But.drewN | with_reducible apply But.drew | with_reducible apply But.alloc | (with_reducible refine But.setNew ?_ (by simp; try omega) _)))) k2); have nly2 : W.heap.size ≤ y2.heap.size := kwy2.size; have n0y2 : w.heap.size < y2.heap.size := (by omega); have p3y2 := Kept.cell kwy2 p3; have p4y2 := Kept.cell kwy2 p4; have p5y2 := Kept.cell kwy2 p5; (try have m1y2 : W.heap.size < y2.heap.size := (by omega)); (try have m2y2 : W.heap.size + 1 < y2.heap.size := (by omega)))
             | (go_at_call 66; refine (ibehind _ f r.1 n (-1) _ (FieldAt.kept hfa (by (repeat (first | with_reducible exact kwy2 | with_reducible apply But.drewN | with_reducible apply But.drew | with_reducible apply But.alloc | (with_reducible refine But.setNew ?_ (by simp; try omega) _))))) HG2.out h0 h1).mono ?_; rintro e y3 ⟨rfl, k3⟩; rw [HB1.out, HB2.out]; have hcy3 := k3.cell_eq; have hfy3 := k3.frozen_eq; have hzy3 := k3.size; (try simp at hzy3); have kwy3 : Kept W y3 := (But.trans (by (repeat (first | with_reducible exact kwy2 | with_reducible apply But.drewN | with_reducible apply But.drew | with_reducible apply But.alloc | (with_reducible refine But.setNew ?_ (by simp; try omega) _)))) k3); have nly3 : W.heap.size ≤ y3.heap.size := kwy3.size; have n0y3 : w.heap.size < y3.heap.size := (by omega); have p3y3 := Kept.cell kwy3 p3; have p4y3 := Kept.cell kwy3 p4; have p5y3 := Kept.cell kwy3 p5; (try have m1y3 : W.heap.size < y3.heap.size := (by omega)); (try have m2y3 : W.heap.size + 1 < y3.heap.size := (by omega)); (try have m3y3 : y2.heap.size < y3.heap.size := (by omega)); (try have m4y3 : y2.heap.size + 1 < y3.heap.size := (by omega)); (try have ys00 : (y3.cell? ⟨W.heap.size, 0, none⟩).isSome = true := (by first | (simp [go_sem, *]; done) | fail)); (try have ys01 : (y3.cell? ⟨W.heap.size, 1, none⟩).isSome = true := (by first | (simp [go_sem, *]; done) | fail)); (try have ys10 : (y3.cell? ⟨W.heap.size + 1, 0, none⟩).isSome = true := (by first | (simp [go_sem, *]; done) | fail)); (try have ys11 : (y3.cell? ⟨W.heap.size + 1, 1, none⟩).isSome = true := (by first | (simp [go_sem, *]; done) | fail)); (try have ys20 : (y3.cell? ⟨y2.heap.size, 0, none⟩).isSome = true := (by first | (simp [go_sem, *]; done) | fail)); (try have ys21 : (y3.cell? ⟨y2.heap.size, 1, none⟩).isSome = true := (by first | (simp [go_sem, *]; done) | fail)); (try have ys30 : (y3.cell? ⟨y2.heap.size + 1, 0, none⟩).isSome = true := (by first | (simp [go_sem, *]; done) | fail)); (try have ys31 : (y3.cell? ⟨y2.heap.size + 1, 1, none⟩).isSome = true := (by first | (simp [go_sem, *]; done) | fail))))
    all_goals
      repeat (first | go_values | go_skip | go_guarded | go_step | go_upon)
      go_meet
      case rel =>
        refine ⟨_, _, rfl, rfl, ⟨by simp [go_sem, *], by simp [go_sem, *]⟩, ⟨by simp [go_sem, *], by simp [go_sem, *]⟩, by (repeat (first | with_reducible exact kwy3 | with_reducible apply But.drewN | with_reducible apply But.drew | with_reducible apply But.alloc | (with_reducible refine But.setNew ?_ (by simp; try omega) _)))⟩
  case rest =>
    obtain ⟨g1, g2, rfl, rfl, t1, t2, kx⟩ := hcut
    have L0 := L0.kept kx
    have r1 := r1.kept kx
    have r2 := r2.kept kx
    have kz := kz.trans kx
    clear p3 p4 p5 pl nA hfa hf kx
    have p1 := L0.cell 1 rfl
    have p2 := L0.cell 2 rfl
    have pl := L0.lt
    have t11 := t1.1
    have t12 := t1.2
    have t21 := t2.1
    have t22 := t2.2
    repeat (first | go_values | go_skip | go_guarded | go_step | go_upon)
    go_at_call 77
    refine (imf r.2.1 r.1 A1 t _ _ _ r1 HG.out.1.2.1 HG.out.1.1.2 bA1).mono ?_
    rintro e u0 ⟨rfl, k0⟩
    cases d0 : dec (Fol r.2.1 A1 t) with
    | false =>
      dsimp only
      repeat (first | go_values | go_skip | go_guarded | go_step | go_upon)
      go_ret
      exact ⟨ret_bool (dec_no fun h => of_dec_no d0 (HFP.out.1 h).1).symm, kz.trans k0⟩
    | true =>
      have L0 := L0.kept k0
      have t1 := t1.kept k0
      have t2 := t2.kept k0
      have r1 := r1.kept k0
      have r2 := r2.kept k0
      have kz := kz.trans k0
      clear p1 p2 pl t11 t12 t21 t22 k0
      have p1 := L0.cell 1 rfl
      have p2 := L0.cell 2 rfl
      have pl := L0.lt
      have t11 := t1.1
      have t12 := t1.2
      have t21 := t2.1
      have t22 := t2.2
      dsimp only
      repeat (first | go_values | go_skip | go_guarded | go_step | go_upon)
      go_at_call 77
      refine (imf r.2.1 r.1 t B1 _ _ _ r1 HG.out.1.2.1 HG.out.1.1.2 ht).mono ?_
      rintro e u1 ⟨rfl, k1⟩
      cases d1 : dec (Fol r.2.1 t B1) with
      | false =>
        dsimp only
        repeat (first | go_values | go_skip | go_guarded | go_step | go_upon)
        go_ret
        exact ⟨ret_bool (dec_no fun h => of_dec_no d1 (HFP.out.1 h).2.1).symm, kz.trans k1⟩
      | true =>
        have L0 := L0.kept k1
        have t1 := t1.kept k1
        have t2 := t2.kept k1
        have r1 := r1.kept k1
        have r2 := r2.kept k1
        have kz := kz.trans k1
        clear p1 p2 pl t11 t12 t21 t22 k1
        have p1 := L0.cell 1 rfl
        have p2 := L0.cell 2 rfl
        have pl := L0.lt
        have t11 := t1.1
        have t12 := t1.2
        have t21 := t2.1
        have t22 := t2.2
        dsimp only
        repeat (first | go_values | go_skip | go_guarded | go_step | go_upon)
        go_at_call 77
        refine (imf r.2.2 r.1 A2 t _ _ _ r2 HG.out.1.2.2 HG.out.1.1.2 bA2).mono ?_
        rintro e u2 ⟨rfl, k2⟩
        cases d2 : dec (Fol r.2.2 A2 t) with
        | false =>
          dsimp only
          repeat (first | go_values | go_skip | go_guarded | go_step | go_upon)
          go_ret
          exact ⟨ret_bool (dec_no fun h => of_dec_no d2 (HFP.out.1 h).2.2.1).symm, kz.trans k2⟩
        | true =>
          have L0 := L0.kept k2
          have t1 := t1.kept k2
          have t2 := t2.kept k2
          have r1 := r1.kept k2
          have r2 := r2.kept k2
          have kz := kz.trans k2
          clear p1 p2 pl t11 t12 t21 t22 k2
          have p1 := L0.cell 1 rfl
          have p2 := L0.cell 2 rfl
          have pl := L0.lt
          have t11 := t1.1
          have t12 := t1.2
          have t21 := t2.1
          have t22 := t2.2
          dsimp only
          repeat (first | go_values | go_skip | go_guarded | go_step | go_upon)
          go_at_call 77
          refine (imf r.2.2 r.1 t B2 _ _ _ r2 HG.out.1.2.2 HG.out.1.1.2 ht).mono ?_
          rintro e u3 ⟨rfl, k3⟩
          dsimp only
          repeat (first | go_values | go_skip | go_guarded | go_step | go_upon)
          go_ret
          refine ⟨ret_bool ?_, kz.trans k3⟩
          by_cases h : Fol r.2.2 t B2
          · rw [dec_yes h, dec_yes (HFP.out.2 ⟨of_dec d0, of_dec d1, of_dec d2, h⟩)]
          · rw [dec_no h, dec_no (fun x => h (HFP.out.1 x).2.2.2)]

end Go.Proofs.Ytopakblckajdmaa
