/-
  At every two turns the program's DivTurn answers what the specification's DivTurn answers.
-/
import Derived.Test.YthbhoppmdcfgeaaRows
import Derived.Test.YthbhoppmdcfgeaaDivSpec
import Derived.Test.YthbhoppmdcfgeaaKit
import Derived.WalkKit
import Derived.ProofKit
import Derived.OpenShut
import Derived.Deep.RegionHeld3
namespace Go.Proofs.Ythbhoppmdcfgeaa.fnExactDivTurn
open Go.ChangeShapes Go.WideShapes Go.ChangeAt Go.RowKit
set_option linter.unusedVariables false

theorem own : ownKnob Try.prog.godebug = none := by kernel_rfl

set_option maxHeartbeats 8000000 in
theorem walk (a0 b0 : Nat) (a1 b1 : Nat) (h0 : a0 < 18446744073709551616) (k0 : b0 < 18446744073709551616) (h1 : a1 < 18446744073709551616) (k1 : b1 < 18446744073709551616) (w : World) :
    Calls Try.prog 8 #[.agg #[.float .f64 a0, .float .f64 b0], .agg #[.float .f64 a1, .float .f64 b1]] w fun e w' => e = .returned (.bool true) ∧ Grown w w' := by
  go_enter Try.func8, Try.ntmps8
  go_wp2_with fail
  go_region_held3 (fun w' => w'.cell? ⟨w.heap.size, 0, none⟩ = some (.float .f64 a0) ∧ w'.cell? ⟨w.heap.size, 1, none⟩ = some (.float .f64 b0) ∧ w'.cell? ⟨w.heap.size + 1, 0, none⟩ = some (.float .f64 a1) ∧ w'.cell? ⟨w.heap.size + 1, 1, none⟩ = some (.float .f64 b1)) (simp [go_sem, *])
    (first
      | (go_at_call 29; refine (toTurn _ _ _).mono ?_; rintro e w1 ⟨rfl, rfl⟩)
      | (go_at_call 31; refine (specDiv a0 b0 a1 b1 h0 k0 h1 k1 _).mono ?_; rintro e w1 ⟨rfl, hg1⟩; obtain ⟨c0, c1, c2, c3, n0, n1⟩ := keep4 (h := w.heap.size) (a := .float .f64 a0) (b := .float .f64 b0) (c := .float .f64 a1) (d := .float .f64 b1) hg1 (by simp +arith) (by simp [go_sem]) (by simp [go_sem]) (by simp [go_sem]) (by simp [go_sem]); have hc1 := gcell hg1; have hf1 := hg1.2.1))
  all_goals go_wp2_with fail
  · refine forget (fun w' => w'.cell? ⟨w.heap.size, 0, none⟩ = some (.float .f64 a0) ∧ w'.cell? ⟨w.heap.size, 1, none⟩ = some (.float .f64 b0) ∧ w'.cell? ⟨w.heap.size + 1, 0, none⟩ = some (.float .f64 a1) ∧ w'.cell? ⟨w.heap.size + 1, 1, none⟩ = some (.float .f64 b1) ∧ w'.cell? ⟨w1.heap.size, 0, none⟩ = some (.float .f64 (divM a0 b0 a1 b1).1) ∧ w'.cell? ⟨w1.heap.size, 1, none⟩ = some (.float .f64 (divM a0 b0 a1 b1).2.1) ∧ w.heap.size + 1 < w1.heap.size ∧ w1.heap.size < w'.heap.size ∧ Grown w w') ⟨by simp [go_sem, *], by simp [go_sem, *], by simp [go_sem, *], by simp [go_sem, *], by simp [go_sem, *], by simp [go_sem, *], n1, by simp, Grown.alloc (gtrans (by repeat (first | with_reducible exact Grown.refl _ | with_reducible apply drewN_grown | with_reducible apply Grown.drew | with_reducible apply Grown.alloc)) hg1) _ _⟩ ?_
    clear hc1 hf1 hg1 c0 c1 c2 c3 n0 n1
    rintro W1 ⟨c0, c1, c2, c3, r0, r1, hlt, hgl, hgW⟩
    generalize w1.heap.size = g1 at r0 r1 hlt hgl ⊢
    have x0_0 : w.heap.size < W1.heap.size := by omega
    have x0_1 : w.heap.size < W1.heap.size + 1 := by omega
    have x0_2 : w.heap.size < W1.heap.size + 1 + 1 := by omega
    have x0_3 : w.heap.size < W1.heap.size + 1 + 1 + 1 := by omega
    have x0_4 : w.heap.size < W1.heap.size + 1 + 1 + 1 + 1 := by omega
    have x0_5 : w.heap.size < W1.heap.size + 1 + 1 + 1 + 1 + 1 := by omega
    have x0_6 : w.heap.size < W1.heap.size + 1 + 1 + 1 + 1 + 1 + 1 := by omega
    have x0_7 : w.heap.size < W1.heap.size + 1 + 1 + 1 + 1 + 1 + 1 + 1 := by omega
    have x0_8 : w.heap.size < W1.heap.size + 1 + 1 + 1 + 1 + 1 + 1 + 1 + 1 := by omega
    have x1_0 : w.heap.size + 1 < W1.heap.size := by omega
    have x1_1 : w.heap.size + 1 < W1.heap.size + 1 := by omega
    have x1_2 : w.heap.size + 1 < W1.heap.size + 1 + 1 := by omega
    have x1_3 : w.heap.size + 1 < W1.heap.size + 1 + 1 + 1 := by omega
    have x1_4 : w.heap.size + 1 < W1.heap.size + 1 + 1 + 1 + 1 := by omega
    have x1_5 : w.heap.size + 1 < W1.heap.size + 1 + 1 + 1 + 1 + 1 := by omega
    have x1_6 : w.heap.size + 1 < W1.heap.size + 1 + 1 + 1 + 1 + 1 + 1 := by omega
    have x1_7 : w.heap.size + 1 < W1.heap.size + 1 + 1 + 1 + 1 + 1 + 1 + 1 := by omega
    have x1_8 : w.heap.size + 1 < W1.heap.size + 1 + 1 + 1 + 1 + 1 + 1 + 1 + 1 := by omega
    have x2_0 : g1 < W1.heap.size := by omega
    have x2_1 : g1 < W1.heap.size + 1 := by omega
    have x2_2 : g1 < W1.heap.size + 1 + 1 := by omega
    have x2_3 : g1 < W1.heap.size + 1 + 1 + 1 := by omega
    have x2_4 : g1 < W1.heap.size + 1 + 1 + 1 + 1 := by omega
    have x2_5 : g1 < W1.heap.size + 1 + 1 + 1 + 1 + 1 := by omega
    have x2_6 : g1 < W1.heap.size + 1 + 1 + 1 + 1 + 1 + 1 := by omega
    have x2_7 : g1 < W1.heap.size + 1 + 1 + 1 + 1 + 1 + 1 + 1 := by omega
    have x2_8 : g1 < W1.heap.size + 1 + 1 + 1 + 1 + 1 + 1 + 1 + 1 := by omega
    go_region_held3 (fun w' => w'.cell? ⟨w.heap.size, 0, none⟩ = some (.float .f64 a0) ∧ w'.cell? ⟨w.heap.size, 1, none⟩ = some (.float .f64 b0) ∧ w'.cell? ⟨w.heap.size + 1, 0, none⟩ = some (.float .f64 a1) ∧ w'.cell? ⟨w.heap.size + 1, 1, none⟩ = some (.float .f64 b1) ∧ w'.cell? ⟨g1, 0, none⟩ = some (.float .f64 (divM a0 b0 a1 b1).1) ∧ w'.cell? ⟨g1, 1, none⟩ = some (.float .f64 (divM a0 b0 a1 b1).2.1)) (simp [go_sem, *])
      (first
        | (go_at_call 29; refine (toTurn _ _ _).mono ?_; rintro e w1 ⟨rfl, rfl⟩)
        | (go_at_call 32; refine (implDiv a0 b0 a1 b1 h0 k0 h1 k1 _).mono ?_; rintro e w2 ⟨rfl, hg2⟩; have hc2 := gcell hg2; have hf2 := hg2.2.1; have z2 := hg2.2.2; simp [go_sem] at z2; have q0 : w.heap.size < w2.heap.size := (by omega); have q1 : w.heap.size + 1 < w2.heap.size := (by omega); have q2 : g1 < w2.heap.size := (by omega); have y0 : (w2.cell? ⟨W1.heap.size, 0, none⟩).isSome = true := (by rw [hc2 _ _ (by simp +arith)]; simp [go_sem]); have y1 : (w2.cell? ⟨W1.heap.size, 1, none⟩).isSome = true := (by rw [hc2 _ _ (by simp +arith)]; simp [go_sem])))
    all_goals
      go_wp2_with (go_at_call 30; refine (eqTurn _ _ _).mono ?_; rintro e w3 ⟨rfl, hg3⟩)
      go_ret
      refine ⟨rfl, gtrans ?_ hg3⟩
      first
        | (with_reducible refine Grown.alloc ?_ _ _)
        | (refine Grown.setCell (Grown.setCell ?_ (by simp <;> omega) _) (by simp <;> omega) _)
      refine gtrans ?_ hg2
      repeat (first | with_reducible exact Grown.refl _ | with_reducible exact hgW | with_reducible apply drewN_grown | with_reducible apply Grown.drew | with_reducible apply Grown.alloc)
  · refine forget (fun w' => w'.cell? ⟨w.heap.size, 0, none⟩ = some (.float .f64 a0) ∧ w'.cell? ⟨w.heap.size, 1, none⟩ = some (.float .f64 b0) ∧ w'.cell? ⟨w.heap.size + 1, 0, none⟩ = some (.float .f64 a1) ∧ w'.cell? ⟨w.heap.size + 1, 1, none⟩ = some (.float .f64 b1) ∧ w'.cell? ⟨w.heap.size + 1 + 1 + 1 + 1 + 1 + 1 + 1 + 1, 0, none⟩ = some (.float .f64 (divM a0 b0 a1 b1).1) ∧ w'.cell? ⟨w.heap.size + 1 + 1 + 1 + 1 + 1 + 1 + 1 + 1, 1, none⟩ = some (.float .f64 (divM a0 b0 a1 b1).2.1) ∧ w.heap.size + 1 < w.heap.size + 1 + 1 + 1 + 1 + 1 + 1 + 1 + 1 ∧ w.heap.size + 1 + 1 + 1 + 1 + 1 + 1 + 1 + 1 < w'.heap.size ∧ Grown w w') ⟨by simp [go_sem, *], by simp [go_sem, *], by simp [go_sem, *], by simp [go_sem, *], by simp [go_sem, *], by simp [go_sem, *], by simp +arith, by have z1 := hg1.2.2; simp at z1 ⊢; omega, ((gtrans (by repeat (first | with_reducible exact Grown.refl _ | with_reducible apply drewN_grown | with_reducible apply Grown.drew | with_reducible apply Grown.alloc)) hg1).setCell (by simp +arith) _).setCell (by simp +arith) _⟩ ?_
    clear hc1 hf1 hg1 c0 c1 c2 c3 n0 n1
    rintro W1 ⟨c0, c1, c2, c3, r0, r1, hlt, hgl, hgW⟩
    generalize w.heap.size + 1 + 1 + 1 + 1 + 1 + 1 + 1 + 1 = g1 at r0 r1 hlt hgl ⊢
    have x0_0 : w.heap.size < W1.heap.size := by omega
    have x0_1 : w.heap.size < W1.heap.size + 1 := by omega
    have x0_2 : w.heap.size < W1.heap.size + 1 + 1 := by omega
    have x0_3 : w.heap.size < W1.heap.size + 1 + 1 + 1 := by omega
    have x0_4 : w.heap.size < W1.heap.size + 1 + 1 + 1 + 1 := by omega
    have x0_5 : w.heap.size < W1.heap.size + 1 + 1 + 1 + 1 + 1 := by omega
    have x0_6 : w.heap.size < W1.heap.size + 1 + 1 + 1 + 1 + 1 + 1 := by omega
    have x0_7 : w.heap.size < W1.heap.size + 1 + 1 + 1 + 1 + 1 + 1 + 1 := by omega
    have x0_8 : w.heap.size < W1.heap.size + 1 + 1 + 1 + 1 + 1 + 1 + 1 + 1 := by omega
    have x1_0 : w.heap.size + 1 < W1.heap.size := by omega
    have x1_1 : w.heap.size + 1 < W1.heap.size + 1 := by omega
    have x1_2 : w.heap.size + 1 < W1.heap.size + 1 + 1 := by omega
    have x1_3 : w.heap.size + 1 < W1.heap.size + 1 + 1 + 1 := by omega
    have x1_4 : w.heap.size + 1 < W1.heap.size + 1 + 1 + 1 + 1 := by omega
    have x1_5 : w.heap.size + 1 < W1.heap.size + 1 + 1 + 1 + 1 + 1 := by omega
    have x1_6 : w.heap.size + 1 < W1.heap.size + 1 + 1 + 1 + 1 + 1 + 1 := by omega
    have x1_7 : w.heap.size + 1 < W1.heap.size + 1 + 1 + 1 + 1 + 1 + 1 + 1 := by omega
    have x1_8 : w.heap.size + 1 < W1.heap.size + 1 + 1 + 1 + 1 + 1 + 1 + 1 + 1 := by omega
    have x2_0 : g1 < W1.heap.size := by omega
    have x2_1 : g1 < W1.heap.size + 1 := by omega
    have x2_2 : g1 < W1.heap.size + 1 + 1 := by omega
    have x2_3 : g1 < W1.heap.size + 1 + 1 + 1 := by omega
    have x2_4 : g1 < W1.heap.size + 1 + 1 + 1 + 1 := by omega
    have x2_5 : g1 < W1.heap.size + 1 + 1 + 1 + 1 + 1 := by omega
    have x2_6 : g1 < W1.heap.size + 1 + 1 + 1 + 1 + 1 + 1 := by omega
    have x2_7 : g1 < W1.heap.size + 1 + 1 + 1 + 1 + 1 + 1 + 1 := by omega
    have x2_8 : g1 < W1.heap.size + 1 + 1 + 1 + 1 + 1 + 1 + 1 + 1 := by omega
    go_region_held3 (fun w' => w'.cell? ⟨w.heap.size, 0, none⟩ = some (.float .f64 a0) ∧ w'.cell? ⟨w.heap.size, 1, none⟩ = some (.float .f64 b0) ∧ w'.cell? ⟨w.heap.size + 1, 0, none⟩ = some (.float .f64 a1) ∧ w'.cell? ⟨w.heap.size + 1, 1, none⟩ = some (.float .f64 b1) ∧ w'.cell? ⟨g1, 0, none⟩ = some (.float .f64 (divM a0 b0 a1 b1).1) ∧ w'.cell? ⟨g1, 1, none⟩ = some (.float .f64 (divM a0 b0 a1 b1).2.1)) (simp [go_sem, *])
      (first
        | (go_at_call 29; refine (toTurn _ _ _).mono ?_; rintro e w1 ⟨rfl, rfl⟩)
        | (go_at_call 32; refine (implDiv a0 b0 a1 b1 h0 k0 h1 k1 _).mono ?_; rintro e w2 ⟨rfl, hg2⟩; have hc2 := gcell hg2; have hf2 := hg2.2.1; have z2 := hg2.2.2; simp [go_sem] at z2; have q0 : w.heap.size < w2.heap.size := (by omega); have q1 : w.heap.size + 1 < w2.heap.size := (by omega); have q2 : g1 < w2.heap.size := (by omega); have y0 : (w2.cell? ⟨W1.heap.size, 0, none⟩).isSome = true := (by rw [hc2 _ _ (by simp +arith)]; simp [go_sem]); have y1 : (w2.cell? ⟨W1.heap.size, 1, none⟩).isSome = true := (by rw [hc2 _ _ (by simp +arith)]; simp [go_sem])))
    all_goals
      go_wp2_with (go_at_call 30; refine (eqTurn _ _ _).mono ?_; rintro e w3 ⟨rfl, hg3⟩)
      go_ret
      refine ⟨rfl, gtrans ?_ hg3⟩
      first
        | (with_reducible refine Grown.alloc ?_ _ _)
        | (refine Grown.setCell (Grown.setCell ?_ (by simp <;> omega) _) (by simp <;> omega) _)
      refine gtrans ?_ hg2
      repeat (first | with_reducible exact Grown.refl _ | with_reducible exact hgW | with_reducible apply drewN_grown | with_reducible apply Grown.drew | with_reducible apply Grown.alloc)
  · refine forget (fun w' => w'.cell? ⟨w.heap.size, 0, none⟩ = some (.float .f64 a0) ∧ w'.cell? ⟨w.heap.size, 1, none⟩ = some (.float .f64 b0) ∧ w'.cell? ⟨w.heap.size + 1, 0, none⟩ = some (.float .f64 a1) ∧ w'.cell? ⟨w.heap.size + 1, 1, none⟩ = some (.float .f64 b1) ∧ w'.cell? ⟨w.heap.size + 1 + 1 + 1 + 1 + 1, 0, none⟩ = some (.float .f64 (divM a0 b0 a1 b1).1) ∧ w'.cell? ⟨w.heap.size + 1 + 1 + 1 + 1 + 1, 1, none⟩ = some (.float .f64 (divM a0 b0 a1 b1).2.1) ∧ w.heap.size + 1 < w.heap.size + 1 + 1 + 1 + 1 + 1 ∧ w.heap.size + 1 + 1 + 1 + 1 + 1 < w'.heap.size ∧ Grown w w') ⟨by simp [go_sem, *], by simp [go_sem, *], by simp [go_sem, *], by simp [go_sem, *], by simp [go_sem, *], by simp [go_sem, *], by simp +arith, by have z1 := hg1.2.2; simp at z1 ⊢; omega, ((gtrans (by repeat (first | with_reducible exact Grown.refl _ | with_reducible apply drewN_grown | with_reducible apply Grown.drew | with_reducible apply Grown.alloc)) hg1).setCell (by simp +arith) _).setCell (by simp +arith) _⟩ ?_
    clear hc1 hf1 hg1 c0 c1 c2 c3 n0 n1
    rintro W1 ⟨c0, c1, c2, c3, r0, r1, hlt, hgl, hgW⟩
    generalize w.heap.size + 1 + 1 + 1 + 1 + 1 = g1 at r0 r1 hlt hgl ⊢
    have x0_0 : w.heap.size < W1.heap.size := by omega
    have x0_1 : w.heap.size < W1.heap.size + 1 := by omega
    have x0_2 : w.heap.size < W1.heap.size + 1 + 1 := by omega
    have x0_3 : w.heap.size < W1.heap.size + 1 + 1 + 1 := by omega
    have x0_4 : w.heap.size < W1.heap.size + 1 + 1 + 1 + 1 := by omega
    have x0_5 : w.heap.size < W1.heap.size + 1 + 1 + 1 + 1 + 1 := by omega
    have x0_6 : w.heap.size < W1.heap.size + 1 + 1 + 1 + 1 + 1 + 1 := by omega
    have x0_7 : w.heap.size < W1.heap.size + 1 + 1 + 1 + 1 + 1 + 1 + 1 := by omega
    have x0_8 : w.heap.size < W1.heap.size + 1 + 1 + 1 + 1 + 1 + 1 + 1 + 1 := by omega
    have x1_0 : w.heap.size + 1 < W1.heap.size := by omega
    have x1_1 : w.heap.size + 1 < W1.heap.size + 1 := by omega
    have x1_2 : w.heap.size + 1 < W1.heap.size + 1 + 1 := by omega
    have x1_3 : w.heap.size + 1 < W1.heap.size + 1 + 1 + 1 := by omega
    have x1_4 : w.heap.size + 1 < W1.heap.size + 1 + 1 + 1 + 1 := by omega
    have x1_5 : w.heap.size + 1 < W1.heap.size + 1 + 1 + 1 + 1 + 1 := by omega
    have x1_6 : w.heap.size + 1 < W1.heap.size + 1 + 1 + 1 + 1 + 1 + 1 := by omega
    have x1_7 : w.heap.size + 1 < W1.heap.size + 1 + 1 + 1 + 1 + 1 + 1 + 1 := by omega
    have x1_8 : w.heap.size + 1 < W1.heap.size + 1 + 1 + 1 + 1 + 1 + 1 + 1 + 1 := by omega
    have x2_0 : g1 < W1.heap.size := by omega
    have x2_1 : g1 < W1.heap.size + 1 := by omega
    have x2_2 : g1 < W1.heap.size + 1 + 1 := by omega
    have x2_3 : g1 < W1.heap.size + 1 + 1 + 1 := by omega
    have x2_4 : g1 < W1.heap.size + 1 + 1 + 1 + 1 := by omega
    have x2_5 : g1 < W1.heap.size + 1 + 1 + 1 + 1 + 1 := by omega
    have x2_6 : g1 < W1.heap.size + 1 + 1 + 1 + 1 + 1 + 1 := by omega
    have x2_7 : g1 < W1.heap.size + 1 + 1 + 1 + 1 + 1 + 1 + 1 := by omega
    have x2_8 : g1 < W1.heap.size + 1 + 1 + 1 + 1 + 1 + 1 + 1 + 1 := by omega
    go_region_held3 (fun w' => w'.cell? ⟨w.heap.size, 0, none⟩ = some (.float .f64 a0) ∧ w'.cell? ⟨w.heap.size, 1, none⟩ = some (.float .f64 b0) ∧ w'.cell? ⟨w.heap.size + 1, 0, none⟩ = some (.float .f64 a1) ∧ w'.cell? ⟨w.heap.size + 1, 1, none⟩ = some (.float .f64 b1) ∧ w'.cell? ⟨g1, 0, none⟩ = some (.float .f64 (divM a0 b0 a1 b1).1) ∧ w'.cell? ⟨g1, 1, none⟩ = some (.float .f64 (divM a0 b0 a1 b1).2.1)) (simp [go_sem, *])
      (first
        | (go_at_call 29; refine (toTurn _ _ _).mono ?_; rintro e w1 ⟨rfl, rfl⟩)
        | (go_at_call 32; refine (implDiv a0 b0 a1 b1 h0 k0 h1 k1 _).mono ?_; rintro e w2 ⟨rfl, hg2⟩; have hc2 := gcell hg2; have hf2 := hg2.2.1; have z2 := hg2.2.2; simp [go_sem] at z2; have q0 : w.heap.size < w2.heap.size := (by omega); have q1 : w.heap.size + 1 < w2.heap.size := (by omega); have q2 : g1 < w2.heap.size := (by omega); have y0 : (w2.cell? ⟨W1.heap.size, 0, none⟩).isSome = true := (by rw [hc2 _ _ (by simp +arith)]; simp [go_sem]); have y1 : (w2.cell? ⟨W1.heap.size, 1, none⟩).isSome = true := (by rw [hc2 _ _ (by simp +arith)]; simp [go_sem])))
    all_goals
      go_wp2_with (go_at_call 30; refine (eqTurn _ _ _).mono ?_; rintro e w3 ⟨rfl, hg3⟩)
      go_ret
      refine ⟨rfl, gtrans ?_ hg3⟩
      first
        | (with_reducible refine Grown.alloc ?_ _ _)
        | (refine Grown.setCell (Grown.setCell ?_ (by simp <;> omega) _) (by simp <;> omega) _)
      refine gtrans ?_ hg2
      repeat (first | with_reducible exact Grown.refl _ | with_reducible exact hgW | with_reducible apply drewN_grown | with_reducible apply Grown.drew | with_reducible apply Grown.alloc)
  · refine forget (fun w' => w'.cell? ⟨w.heap.size, 0, none⟩ = some (.float .f64 a0) ∧ w'.cell? ⟨w.heap.size, 1, none⟩ = some (.float .f64 b0) ∧ w'.cell? ⟨w.heap.size + 1, 0, none⟩ = some (.float .f64 a1) ∧ w'.cell? ⟨w.heap.size + 1, 1, none⟩ = some (.float .f64 b1) ∧ w'.cell? ⟨w.heap.size + 1 + 1, 0, none⟩ = some (.float .f64 (divM a0 b0 a1 b1).1) ∧ w'.cell? ⟨w.heap.size + 1 + 1, 1, none⟩ = some (.float .f64 (divM a0 b0 a1 b1).2.1) ∧ w.heap.size + 1 < w.heap.size + 1 + 1 ∧ w.heap.size + 1 + 1 < w'.heap.size ∧ Grown w w') ⟨by simp [go_sem, *], by simp [go_sem, *], by simp [go_sem, *], by simp [go_sem, *], by simp [go_sem, *], by simp [go_sem, *], by simp +arith, by have z1 := hg1.2.2; simp at z1 ⊢; omega, ((gtrans (by repeat (first | with_reducible exact Grown.refl _ | with_reducible apply drewN_grown | with_reducible apply Grown.drew | with_reducible apply Grown.alloc)) hg1).setCell (by simp +arith) _).setCell (by simp +arith) _⟩ ?_
    clear hc1 hf1 hg1 c0 c1 c2 c3 n0 n1
    rintro W1 ⟨c0, c1, c2, c3, r0, r1, hlt, hgl, hgW⟩
    generalize w.heap.size + 1 + 1 = g1 at r0 r1 hlt hgl ⊢
    have x0_0 : w.heap.size < W1.heap.size := by omega
    have x0_1 : w.heap.size < W1.heap.size + 1 := by omega
    have x0_2 : w.heap.size < W1.heap.size + 1 + 1 := by omega
    have x0_3 : w.heap.size < W1.heap.size + 1 + 1 + 1 := by omega
    have x0_4 : w.heap.size < W1.heap.size + 1 + 1 + 1 + 1 := by omega
    have x0_5 : w.heap.size < W1.heap.size + 1 + 1 + 1 + 1 + 1 := by omega
    have x0_6 : w.heap.size < W1.heap.size + 1 + 1 + 1 + 1 + 1 + 1 := by omega
    have x0_7 : w.heap.size < W1.heap.size + 1 + 1 + 1 + 1 + 1 + 1 + 1 := by omega
    have x0_8 : w.heap.size < W1.heap.size + 1 + 1 + 1 + 1 + 1 + 1 + 1 + 1 := by omega
    have x1_0 : w.heap.size + 1 < W1.heap.size := by omega
    have x1_1 : w.heap.size + 1 < W1.heap.size + 1 := by omega
    have x1_2 : w.heap.size + 1 < W1.heap.size + 1 + 1 := by omega
    have x1_3 : w.heap.size + 1 < W1.heap.size + 1 + 1 + 1 := by omega
    have x1_4 : w.heap.size + 1 < W1.heap.size + 1 + 1 + 1 + 1 := by omega
    have x1_5 : w.heap.size + 1 < W1.heap.size + 1 + 1 + 1 + 1 + 1 := by omega
    have x1_6 : w.heap.size + 1 < W1.heap.size + 1 + 1 + 1 + 1 + 1 + 1 := by omega
    have x1_7 : w.heap.size + 1 < W1.heap.size + 1 + 1 + 1 + 1 + 1 + 1 + 1 := by omega
    have x1_8 : w.heap.size + 1 < W1.heap.size + 1 + 1 + 1 + 1 + 1 + 1 + 1 + 1 := by omega
    have x2_0 : g1 < W1.heap.size := by omega
    have x2_1 : g1 < W1.heap.size + 1 := by omega
    have x2_2 : g1 < W1.heap.size + 1 + 1 := by omega
    have x2_3 : g1 < W1.heap.size + 1 + 1 + 1 := by omega
    have x2_4 : g1 < W1.heap.size + 1 + 1 + 1 + 1 := by omega
    have x2_5 : g1 < W1.heap.size + 1 + 1 + 1 + 1 + 1 := by omega
    have x2_6 : g1 < W1.heap.size + 1 + 1 + 1 + 1 + 1 + 1 := by omega
    have x2_7 : g1 < W1.heap.size + 1 + 1 + 1 + 1 + 1 + 1 + 1 := by omega
    have x2_8 : g1 < W1.heap.size + 1 + 1 + 1 + 1 + 1 + 1 + 1 + 1 := by omega
    go_region_held3 (fun w' => w'.cell? ⟨w.heap.size, 0, none⟩ = some (.float .f64 a0) ∧ w'.cell? ⟨w.heap.size, 1, none⟩ = some (.float .f64 b0) ∧ w'.cell? ⟨w.heap.size + 1, 0, none⟩ = some (.float .f64 a1) ∧ w'.cell? ⟨w.heap.size + 1, 1, none⟩ = some (.float .f64 b1) ∧ w'.cell? ⟨g1, 0, none⟩ = some (.float .f64 (divM a0 b0 a1 b1).1) ∧ w'.cell? ⟨g1, 1, none⟩ = some (.float .f64 (divM a0 b0 a1 b1).2.1)) (simp [go_sem, *])
      (first
        | (go_at_call 29; refine (toTurn _ _ _).mono ?_; rintro e w1 ⟨rfl, rfl⟩)
        | (go_at_call 32; refine (implDiv a0 b0 a1 b1 h0 k0 h1 k1 _).mono ?_; rintro e w2 ⟨rfl, hg2⟩; have hc2 := gcell hg2; have hf2 := hg2.2.1; have z2 := hg2.2.2; simp [go_sem] at z2; have q0 : w.heap.size < w2.heap.size := (by omega); have q1 : w.heap.size + 1 < w2.heap.size := (by omega); have q2 : g1 < w2.heap.size := (by omega); have y0 : (w2.cell? ⟨W1.heap.size, 0, none⟩).isSome = true := (by rw [hc2 _ _ (by simp +arith)]; simp [go_sem]); have y1 : (w2.cell? ⟨W1.heap.size, 1, none⟩).isSome = true := (by rw [hc2 _ _ (by simp +arith)]; simp [go_sem])))
    all_goals
      go_wp2_with (go_at_call 30; refine (eqTurn _ _ _).mono ?_; rintro e w3 ⟨rfl, hg3⟩)
      go_ret
      refine ⟨rfl, gtrans ?_ hg3⟩
      first
        | (with_reducible refine Grown.alloc ?_ _ _)
        | (refine Grown.setCell (Grown.setCell ?_ (by simp <;> omega) _) (by simp <;> omega) _)
      refine gtrans ?_ hg2
      repeat (first | with_reducible exact Grown.refl _ | with_reducible exact hgW | with_reducible apply drewN_grown | with_reducible apply Grown.drew | with_reducible apply Grown.alloc)

set_option maxRecDepth 100000 in
theorem lifted (os : Os) (started : os.Started) (H : Type) (enc : TypeId × Value → H) :
    ReturnsInHanded {} Try.checked os 8 .any (Rows.fnExactDivTurnSpec.pre6 enc Try.prog Try.f8 Rows.fnExactDivTurnRow.domain false) (Rows.fnExactDivTurnSpec.post enc Try.prog Try.f8 false true false false) := by
  refine returnsInHanded_of_change (C := Try.checked) own started (by kernel_rfl) Try.func8
    (ChangeSpec.witness6 (enc := enc) (C := Try.checked) false ⟨#[], #[.agg #[.float .f64 0, .float .f64 0], .agg #[.float .f64 0, .float .f64 0]], []⟩ 8 (by kernel_rfl) (by kernel_rfl) (by kernel_rfl) (by kernel_rfl)) ?_
  intro W base args ds gs before hval0 hW hcnd _
  have hval : ∀ (j : Nat) t v, Try.f8.params[j]? = some t → args[j]? = some v → Value.okWide Try.prog W .any base t v := hval0
  have hW' := hW
  obtain ⟨p, q, hA0, hV, rfl, hfz, hnd⟩ := hW
  have hA : DataW.TrodAll enc Try.prog W 0 (fun _ => true) true Try.f8.params.toList args.toList ds p := hA0
  rw [Try.params8] at hA hval
  obtain ⟨v0, vs0, d0, ds0, p0, q0, hargs, rfl, rfl, h0, r0⟩ := trodAll_cons hA
  obtain ⟨v1, vs1, d1, ds1, p1, q1, rfl, rfl, rfl, h1, r1⟩ := trodAll_cons r0
  obtain ⟨rfl, rfl, rfl⟩ := trodAll_nil r1
  obtain rfl : args = #[v0, v1] := by cases args; simp_all
  obtain ⟨rfl, rfl⟩ := trodVars_none hV
  obtain ⟨a0, b0, rfl, rfl, rfl, w0, u0⟩ := open_turn (hval 0 47 v0 rfl rfl) h0
  obtain ⟨a1, b1, rfl, rfl, rfl, w1, u1⟩ := open_turn (hval 1 47 v1 rfl rfl) h1
  clear hA0 hval0
  simp only [List.append_nil] at hW'
  refine (walk a0 b0 a1 b1 (wf64 w0) (wf64 u0) (wf64 w1) (wf64 u1) W).mono fun e W' ⟨he, hg⟩ => ?_
  subst he
  exact ⟨_, rfl, post_of_same (pa := []) (pv := []) hW' (fun _ _ _ => (trodAll_cons_mk (shut_bool Try.underlying4 _) trodAll_mk0)) (fun sp _ => (trodAll_cons_mk (shut_turn w0 u0) (trodAll_cons_mk (shut_turn w1 u1) trodAll_mk0))) (fun _ _ => rfl) rfl
    (hg.frame _) hg.2.1 (ok_one (by kernel_rfl) rfl (okWide_bool_mk Try.underlying4 _))⟩

theorem over : Rows.fnExactDivTurnRow.holds Try.pinned (OpenSpec.ofChange Rows.fnExactDivTurnSpec) :=
  OpenClaim.holds_of_wide 8 Try.f8 rfl rfl rfl rfl rfl rfl rfl ⟨rfl, rfl, rfl, rfl, rfl⟩ rfl rfl rfl rfl rfl (by kernel_rfl) Try.func8 (by kernel_rfl)
    (of_decide_eq_true (by kernel_rfl)) (by unfold Func.isWrapper; first | (rw [if_pos (by decide +kernel)]; kernel_rfl) | (rw [if_neg (by decide +kernel)]; exact ⟨rfl, rfl⟩))
    (fun os started H enc _ => lifted os started H enc)

theorem proved : Rows.FnExactDivTurnSaid :=
  over
#print axioms proved
end Go.Proofs.Ythbhoppmdcfgeaa.fnExactDivTurn
