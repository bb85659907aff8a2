/-
  What the drawing of spots answers: some spot; the cursor's own block alone is written.
-/
import Derived.Test.YtcljppnakmeldaaCur
import Derived.Test.YtcljppnakmeldaaSpot
namespace Go.Proofs.Ytcljppnakmeldaa
open Go.ChangeShapes Go.WideShapes Go.ChangeAt Go.RowKit

theorem some_setD {w : World} {p q : Addr} {x : Value} (h : (w.cell? q).isSome = true) : ((w.setCell p x).cell? q).isSome = true := by
  obtain ⟨v, hv⟩ := Option.isSome_iff_exists.1 h
  obtain ⟨v', hv'⟩ := cell?_setCell_some (p := p) (x := x) hv
  rw [hv']; rfl
theorem Listed.of {w : World} {l : Nat} {zs : List Int} (h : Loc w l (zs.map fun z => .int .i64 z)) : Listed w l zs := fun i hi => by
  refine h.cell i ?_
  rw [List.getElem?_map, List.getD_eq_getElem?_getD, List.getElem?_eq_getElem hi]
  rfl
/-- A spot is answered. -/
def DrawnS (b : Nat) (K : Int) (w : World) (e : Ending) (w' : World) : Prop := ∃ s : SpotD, e = .returned (sv s) ∧ CurOk w' b K ∧ But b (b + 1) w w'

set_option maxRecDepth 100000 in
set_option maxHeartbeats 4000000 in
theorem spot_ok (w : World) (b : Nat) (K : Int) (h : CurOk w b K) (hK : K ≤ 1152921504606840000) :
    Calls Try.prog 37 #[.pointer (some ⟨b, 0, none⟩)] w (DrawnS b (K + 20) w) := by
  have hT : b < w.heap.size := h.lt
  have hC : CurOk w b (K + 0) := h.le (by omega)
  have hK0 := hC.k0
  go_enter Try.func37, Try.ntmps37
  repeat (first | go_values | go_skip | go_guarded | go_step | go_upon)
  have L0 := Loc.new w [.int .i64 0, .int .i64 0, .int .i64 0, .bool false] 24
  have G : But b (b + 1) w _ := (But.refl b (b + 1) w).alloc (.cells #[.int .i64 0, .int .i64 0, .int .i64 0, .bool false] 24)
  go_at_call 44
  refine (pick_ok _ b (K + 0) 21 (by repeat (first | with_reducible exact hC | refine CurOk.set ?_ (by omega) _ _ | refine CurOk.alloc ?_ _)) (by omega) (by omega)).mono ?_
  rintro e w1 ⟨x1, rfl, hx1, hC, hg⟩
  have hC : CurOk _ b (K + 2) := hC.le (by omega)
  have L0 : Loc _ w.heap.size [.int .i64 0, .int .i64 0, .int .i64 0, .bool false] := Loc.but (by repeat (first | with_reducible exact L0 | refine Loc.other ?_ (by omega) _ | apply Loc.alloc)) hg (by omega)
  have G : But b (b + 1) w _ := But.trans (by repeat (first | with_reducible exact G | refine But.setNew ?_ (by first | with_reducible exact Nat.le_refl _ | (dsimp only; omega)) _ | refine But.drewN ?_ _ | refine But.alloc ?_ _)) hg
  clear hg
  dsimp only
  repeat (first | go_values | go_skip | go_guarded | go_step | go_upon)
  go_at_call 44
  refine (pick_ok _ b (K + 2) 21 (by repeat (first | with_reducible exact hC | refine CurOk.set ?_ (by omega) _ _ | refine CurOk.alloc ?_ _)) (by omega) (by omega)).mono ?_
  rintro e w2 ⟨x2, rfl, hx2, hC, hg⟩
  have hC : CurOk _ b (K + 4) := hC.le (by omega)
  have L0 : Loc _ w.heap.size [.int .i64 0, .int .i64 0, .int .i64 0, .bool false] := Loc.but (by repeat (first | with_reducible exact L0 | refine Loc.other ?_ (by omega) _ | apply Loc.alloc)) hg (by omega)
  have G : But b (b + 1) w _ := But.trans (by repeat (first | with_reducible exact G | refine But.setNew ?_ (by first | with_reducible exact Nat.le_refl _ | (dsimp only; omega)) _ | refine But.drewN ?_ _ | refine But.alloc ?_ _)) hg
  clear hg
  dsimp only
  repeat (first | go_values | go_skip | go_guarded | go_step | go_upon)
  go_at_call 44
  refine (pick_ok _ b (K + 4) 4 (by repeat (first | with_reducible exact hC | refine CurOk.set ?_ (by omega) _ _ | refine CurOk.alloc ?_ _)) (by omega) (by omega)).mono ?_
  rintro e w3 ⟨x3, rfl, hx3, hC, hg⟩
  have hC : CurOk _ b (K + 6) := hC.le (by omega)
  have L0 : Loc _ w.heap.size [.int .i64 0, .int .i64 0, .int .i64 0, .bool false] := Loc.but (by repeat (first | with_reducible exact L0 | refine Loc.other ?_ (by omega) _ | apply Loc.alloc)) hg (by omega)
  have G : But b (b + 1) w _ := But.trans (by repeat (first | with_reducible exact G | refine But.setNew ?_ (by first | with_reducible exact Nat.le_refl _ | (dsimp only; omega)) _ | refine But.drewN ?_ _ | refine But.alloc ?_ _)) hg
  clear hg
  dsimp only
  repeat (first | go_values | go_skip | go_guarded | go_step | go_upon)
  go_at_call 64
  refine (one_ok _ b (K + 6) 3 (by repeat (first | with_reducible exact hC | refine CurOk.set ?_ (by omega) _ _ | refine CurOk.alloc ?_ _)) (by omega) (by omega)).mono ?_
  rintro e w4 ⟨y4, rfl, hC, hg⟩
  have hC : CurOk _ b (K + 8) := hC.le (by omega)
  have L0 : Loc _ w.heap.size [.int .i64 0, .int .i64 0, .int .i64 0, .bool false] := Loc.but (by repeat (first | with_reducible exact L0 | refine Loc.other ?_ (by omega) _ | apply Loc.alloc)) hg (by omega)
  have G : But b (b + 1) w _ := But.trans (by repeat (first | with_reducible exact G | refine But.setNew ?_ (by first | with_reducible exact Nat.le_refl _ | (dsimp only; omega)) _ | refine But.drewN ?_ _ | refine But.alloc ?_ _)) hg
  clear hg
  dsimp only
  repeat (first | go_values | go_skip | go_guarded | go_step | go_upon)
  have hs : w.heap.size < w4.heap.size := L0.lt
  clear hx1 hx2 hx3
  generalize x1 - 10 = X at *
  generalize x2 - 10 = Y at *
  have L := Loc.new w4 [.int .i64 X, .int .i64 Y, .int .i64 x3, .bool y4] 24
  have hC := hC.alloc (.cells #[.int .i64 X, .int .i64 Y, .int .i64 x3, .bool y4] 24)
  have L0 := L0.alloc (.cells #[.int .i64 X, .int .i64 Y, .int .i64 x3, .bool y4] 24)
  have G := G.alloc (.cells #[.int .i64 X, .int .i64 Y, .int .i64 x3, .bool y4] 24)
  go_at_call 44
  refine (pick_ok _ b (K + 8) 30 (by repeat (first | with_reducible exact hC | refine CurOk.set ?_ (by omega) _ _ | refine CurOk.alloc ?_ _)) (by omega) (by omega)).mono ?_
  rintro e w5 ⟨x5, rfl, hx5, hC, hg⟩
  have hC : CurOk _ b (K + 10) := hC.le (by omega)
  have L := Loc.but (b := w4.heap.size) (by repeat (first | with_reducible exact L | with_reducible apply Loc.set | with_reducible apply Loc.alloc)) hg (by omega)
  have L0 : Loc _ w.heap.size [.int .i64 0, .int .i64 0, .int .i64 0, .bool false] := Loc.but (by repeat (first | with_reducible exact L0 | refine Loc.other ?_ (by omega) _ | apply Loc.alloc)) hg (by omega)
  have G : But b (b + 1) w _ := But.trans (by repeat (first | with_reducible exact G | refine But.setNew ?_ (by first | with_reducible exact Nat.le_refl _ | (dsimp only; omega)) _ | refine But.drewN ?_ _ | refine But.alloc ?_ _)) hg
  clear hg
  have a0 := L.cell 0 rfl
  have a1 := L.cell 1 rfl
  have a2 := L.cell 2 rfl
  have a3 := L.cell 3 rfl
  have f0 := L.frozen 0
  have f1 := L.frozen 1
  have f2 := L.frozen 2
  have f3 := L.frozen 3
  by_cases z0 : x5 = 0
  · subst z0
    dsimp only
    repeat (first | go_values | go_skip | go_guarded | go_step | go_upon)
    go_at_call 65
    refine (among_ok _ b _ (K + 10) [1000000, -1000000, 1000001] (by repeat (first | with_reducible exact hC | refine CurOk.set ?_ (by omega) _ _ | refine CurOk.alloc ?_ _)) (by omega) (by have := hC.lt; omega) (Listed.of (Loc.new _ _ _)) (by simp) (by simp) 3 rfl).mono ?_
    rintro e w9 ⟨z, rfl, -, hC, hg⟩
    have hC : CurOk _ b (K + 12) := hC.le (by omega)
    have L := Loc.but (b := w4.heap.size) (by repeat (first | with_reducible exact L | with_reducible apply Loc.set | with_reducible apply Loc.alloc)) hg (by omega)
    have L0 : Loc _ w.heap.size [.int .i64 0, .int .i64 0, .int .i64 0, .bool false] := Loc.but (by repeat (first | with_reducible exact L0 | refine Loc.other ?_ (by omega) _ | apply Loc.alloc)) hg (by omega)
    have G : But b (b + 1) w _ := But.trans (by repeat (first | with_reducible exact G | refine But.setNew ?_ (by first | with_reducible exact Nat.le_refl _ | (dsimp only; omega)) _ | refine But.drewN ?_ _ | refine But.alloc ?_ _)) hg
    clear a0 a1 a2 a3 f0 f1 f2 f3 hg
    have a0 := L.cell 0 rfl
    have a1 := L.cell 1 rfl
    have a2 := L.cell 2 rfl
    have a3 := L.cell 3 rfl
    have f0 := L.frozen 0
    have f1 := L.frozen 1
    have f2 := L.frozen 2
    have f3 := L.frozen 3
    have r0 := L0.cell 0 rfl
    have rf0 := L0.frozen 0
    have r1 := L0.cell 1 rfl
    have rf1 := L0.frozen 1
    have r2 := L0.cell 2 rfl
    have rf2 := L0.frozen 2
    have r3 := L0.cell 3 rfl
    have rf3 := L0.frozen 3
    have s0 : ((w9.setCell ⟨w4.heap.size, 0, none⟩ (.int .i64 z)).cell? ⟨w.heap.size, 0, none⟩).isSome = true := (some_setD (by rw [r0]; rfl))
    have s1 : ∀ u, (((w9.setCell ⟨w4.heap.size, 0, none⟩ (.int .i64 z)).setCell ⟨w.heap.size, 0, none⟩ u).cell? ⟨w.heap.size, 1, none⟩).isSome = true := fun _ => (some_setD (some_setD (by rw [r1]; rfl)))
    have s2 : ∀ u v, ((((w9.setCell ⟨w4.heap.size, 0, none⟩ (.int .i64 z)).setCell ⟨w.heap.size, 0, none⟩ u).setCell ⟨w.heap.size, 1, none⟩ v).cell? ⟨w.heap.size, 2, none⟩).isSome = true := fun _ _ => (some_setD (some_setD (some_setD (by rw [r2]; rfl))))
    have s3 : ∀ u v x, (((((w9.setCell ⟨w4.heap.size, 0, none⟩ (.int .i64 z)).setCell ⟨w.heap.size, 0, none⟩ u).setCell ⟨w.heap.size, 1, none⟩ v).setCell ⟨w.heap.size, 2, none⟩ x).cell? ⟨w.heap.size, 3, none⟩).isSome = true := fun _ _ _ => (some_setD (some_setD (some_setD (some_setD (by rw [r3]; rfl)))))
    have t0 : (w9.setCell ⟨w4.heap.size, 0, none⟩ (.int .i64 z)).cell? ⟨w.heap.size, 0, none⟩ = some ((.int .i64 0)) := (L0.other (by omega) _).cell 0 rfl
    have t1 : (w9.setCell ⟨w4.heap.size, 0, none⟩ (.int .i64 z)).cell? ⟨w.heap.size, 1, none⟩ = some ((.int .i64 0)) := (L0.other (by omega) _).cell 1 rfl
    have t2 : (w9.setCell ⟨w4.heap.size, 0, none⟩ (.int .i64 z)).cell? ⟨w.heap.size, 2, none⟩ = some ((.int .i64 0)) := (L0.other (by omega) _).cell 2 rfl
    have t3 : (w9.setCell ⟨w4.heap.size, 0, none⟩ (.int .i64 z)).cell? ⟨w.heap.size, 3, none⟩ = some ((.bool false)) := (L0.other (by omega) _).cell 3 rfl
    dsimp only
    repeat (first | go_values | go_skip | go_guarded | go_step | go_upon)
    refine bodyPost_ret (v := .agg #[.int .i64 z, .int .i64 Y, .int .i64 x3, .bool y4]) (by simp [results, Try.results37, go_sem, r0, r1, r2, r3]) rfl ?_
    exact ⟨(z, Y, x3, y4), rfl, CurOk.le (K := K + 12) (by repeat (first | with_reducible exact hC | refine CurOk.set ?_ (by omega) _ _ | refine CurOk.alloc ?_ _)) (by omega), (by repeat (first | with_reducible exact G | refine But.setNew ?_ (by first | with_reducible exact Nat.le_refl _ | (dsimp only; omega)) _ | refine But.drewN ?_ _ | refine But.alloc ?_ _))⟩
  have d0 : (x5 == 0) = false := by simp; exact z0
  by_cases z1 : x5 = 1
  · subst z1
    dsimp only
    repeat (first | go_values | go_skip | go_guarded | go_step | go_upon)
    go_at_call 65
    refine (among_ok _ b _ (K + 10) [-1, 4] (by repeat (first | with_reducible exact hC | refine CurOk.set ?_ (by omega) _ _ | refine CurOk.alloc ?_ _)) (by omega) (by have := hC.lt; omega) (Listed.of (Loc.new _ _ _)) (by simp) (by simp) 2 rfl).mono ?_
    rintro e w9 ⟨z, rfl, -, hC, hg⟩
    have hC : CurOk _ b (K + 12) := hC.le (by omega)
    have L := Loc.but (b := w4.heap.size) (by repeat (first | with_reducible exact L | with_reducible apply Loc.set | with_reducible apply Loc.alloc)) hg (by omega)
    have L0 : Loc _ w.heap.size [.int .i64 0, .int .i64 0, .int .i64 0, .bool false] := Loc.but (by repeat (first | with_reducible exact L0 | refine Loc.other ?_ (by omega) _ | apply Loc.alloc)) hg (by omega)
    have G : But b (b + 1) w _ := But.trans (by repeat (first | with_reducible exact G | refine But.setNew ?_ (by first | with_reducible exact Nat.le_refl _ | (dsimp only; omega)) _ | refine But.drewN ?_ _ | refine But.alloc ?_ _)) hg
    clear a0 a1 a2 a3 f0 f1 f2 f3 hg
    have a0 := L.cell 0 rfl
    have a1 := L.cell 1 rfl
    have a2 := L.cell 2 rfl
    have a3 := L.cell 3 rfl
    have f0 := L.frozen 0
    have f1 := L.frozen 1
    have f2 := L.frozen 2
    have f3 := L.frozen 3
    have r0 := L0.cell 0 rfl
    have rf0 := L0.frozen 0
    have r1 := L0.cell 1 rfl
    have rf1 := L0.frozen 1
    have r2 := L0.cell 2 rfl
    have rf2 := L0.frozen 2
    have r3 := L0.cell 3 rfl
    have rf3 := L0.frozen 3
    have s0 : ((w9.setCell ⟨w4.heap.size, 2, none⟩ (.int .i64 z)).cell? ⟨w.heap.size, 0, none⟩).isSome = true := (some_setD (by rw [r0]; rfl))
    have s1 : ∀ u, (((w9.setCell ⟨w4.heap.size, 2, none⟩ (.int .i64 z)).setCell ⟨w.heap.size, 0, none⟩ u).cell? ⟨w.heap.size, 1, none⟩).isSome = true := fun _ => (some_setD (some_setD (by rw [r1]; rfl)))
    have s2 : ∀ u v, ((((w9.setCell ⟨w4.heap.size, 2, none⟩ (.int .i64 z)).setCell ⟨w.heap.size, 0, none⟩ u).setCell ⟨w.heap.size, 1, none⟩ v).cell? ⟨w.heap.size, 2, none⟩).isSome = true := fun _ _ => (some_setD (some_setD (some_setD (by rw [r2]; rfl))))
    have s3 : ∀ u v x, (((((w9.setCell ⟨w4.heap.size, 2, none⟩ (.int .i64 z)).setCell ⟨w.heap.size, 0, none⟩ u).setCell ⟨w.heap.size, 1, none⟩ v).setCell ⟨w.heap.size, 2, none⟩ x).cell? ⟨w.heap.size, 3, none⟩).isSome = true := fun _ _ _ => (some_setD (some_setD (some_setD (some_setD (by rw [r3]; rfl)))))
    have t0 : (w9.setCell ⟨w4.heap.size, 2, none⟩ (.int .i64 z)).cell? ⟨w.heap.size, 0, none⟩ = some ((.int .i64 0)) := (L0.other (by omega) _).cell 0 rfl
    have t1 : (w9.setCell ⟨w4.heap.size, 2, none⟩ (.int .i64 z)).cell? ⟨w.heap.size, 1, none⟩ = some ((.int .i64 0)) := (L0.other (by omega) _).cell 1 rfl
    have t2 : (w9.setCell ⟨w4.heap.size, 2, none⟩ (.int .i64 z)).cell? ⟨w.heap.size, 2, none⟩ = some ((.int .i64 0)) := (L0.other (by omega) _).cell 2 rfl
    have t3 : (w9.setCell ⟨w4.heap.size, 2, none⟩ (.int .i64 z)).cell? ⟨w.heap.size, 3, none⟩ = some ((.bool false)) := (L0.other (by omega) _).cell 3 rfl
    dsimp only
    repeat (first | go_values | go_skip | go_guarded | go_step | go_upon)
    refine bodyPost_ret (v := .agg #[.int .i64 X, .int .i64 Y, .int .i64 z, .bool y4]) (by simp [results, Try.results37, go_sem, r0, r1, r2, r3]) rfl ?_
    exact ⟨(X, Y, z, y4), rfl, CurOk.le (K := K + 12) (by repeat (first | with_reducible exact hC | refine CurOk.set ?_ (by omega) _ _ | refine CurOk.alloc ?_ _)) (by omega), (by repeat (first | with_reducible exact G | refine But.setNew ?_ (by first | with_reducible exact Nat.le_refl _ | (dsimp only; omega)) _ | refine But.drewN ?_ _ | refine But.alloc ?_ _))⟩
  have d1 : (x5 == 1) = false := by simp; exact z1
  have r0 := L0.cell 0 rfl
  have rf0 := L0.frozen 0
  have r1 := L0.cell 1 rfl
  have rf1 := L0.frozen 1
  have r2 := L0.cell 2 rfl
  have rf2 := L0.frozen 2
  have r3 := L0.cell 3 rfl
  have rf3 := L0.frozen 3
  have s0 : (w5.cell? ⟨w.heap.size, 0, none⟩).isSome = true := (by rw [r0]; rfl)
  have s1 : ∀ u, ((w5.setCell ⟨w.heap.size, 0, none⟩ u).cell? ⟨w.heap.size, 1, none⟩).isSome = true := fun _ => (some_setD (by rw [r1]; rfl))
  have s2 : ∀ u v, (((w5.setCell ⟨w.heap.size, 0, none⟩ u).setCell ⟨w.heap.size, 1, none⟩ v).cell? ⟨w.heap.size, 2, none⟩).isSome = true := fun _ _ => (some_setD (some_setD (by rw [r2]; rfl)))
  have s3 : ∀ u v x, ((((w5.setCell ⟨w.heap.size, 0, none⟩ u).setCell ⟨w.heap.size, 1, none⟩ v).setCell ⟨w.heap.size, 2, none⟩ x).cell? ⟨w.heap.size, 3, none⟩).isSome = true := fun _ _ _ => (some_setD (some_setD (some_setD (by rw [r3]; rfl))))
  dsimp only
  repeat (first | go_values | go_skip | go_guarded | go_step | go_upon)
  refine bodyPost_ret (v := .agg #[.int .i64 X, .int .i64 Y, .int .i64 x3, .bool y4]) (by simp [results, Try.results37, go_sem, r0, r1, r2, r3]) rfl ?_
  exact ⟨(X, Y, x3, y4), rfl, CurOk.le (K := K + 10) (by repeat (first | with_reducible exact hC | refine CurOk.set ?_ (by omega) _ _ | refine CurOk.alloc ?_ _)) (by omega), (by repeat (first | with_reducible exact G | refine But.setNew ?_ (by first | with_reducible exact Nat.le_refl _ | (dsimp only; omega)) _ | refine But.drewN ?_ _ | refine But.alloc ?_ _))⟩
end Go.Proofs.Ytcljppnakmeldaa
