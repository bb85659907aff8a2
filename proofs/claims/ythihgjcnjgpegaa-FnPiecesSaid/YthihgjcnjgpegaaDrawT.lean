/-
  What the drawing of timers, clocks and times answers: some timer, some clock that lies in memory of its own, some time; the cursor's own block alone is written.
-/
import Derived.Test.YthihgjcnjgpegaaCur
import Derived.Test.YthihgjcnjgpegaaAddS
import Derived.Test.YthihgjcnjgpegaaPut0
namespace Go.Proofs.Ythihgjcnjgpegaa
open Go.ChangeShapes Go.WideShapes Go.ChangeAt Go.RowKit

theorem some_setD {w : World} {p q : Addr} {x : Value} (h : (w.cell? q).isSome = true) : ((w.setCell p x).cell? q).isSome = true := by
  obtain ⟨v, hv⟩ := Option.isSome_iff_exists.1 h
  obtain ⟨v', hv'⟩ := cell?_setCell_some (p := p) (x := x) hv
  rw [hv']; rfl
theorem Listed.of {w : World} {l : Nat} {zs : List Int} (h : Loc w l (zs.map fun z => .int .i64 z)) : Listed w l zs := fun i hi => by
  refine h.cell i ?_
  rw [List.getElem?_map, List.getD_eq_getElem?_getD, List.getElem?_eq_getElem hi]
  rfl
/-- A timer is answered. -/
def DrawnT (b : Nat) (K : Int) (w : World) (e : Ending) (w' : World) : Prop := ∃ ta tb tc td, e = .returned (.agg #[.int .i64 ta, .int .i64 tb, .int .i64 tc, .int .i64 td]) ∧ CurOk w' b K ∧ But b (b + 1) w w'

set_option maxRecDepth 100000 in
set_option maxHeartbeats 4000000 in
theorem timer_ok (w : World) (b : Nat) (K now : Int) (h : CurOk w b K) (hK : K ≤ 1152921504606840000) :
    Calls Try.prog 64 #[.pointer (some ⟨b, 0, none⟩), .int .i64 now] w (DrawnT b (K + 20) w) := by
  have hT : b < w.heap.size := h.lt
  have hC : CurOk w b (K + 0) := h.le (by omega)
  have hK0 := hC.k0
  go_enter Try.func64, Try.ntmps64
  repeat (first | go_values | go_skip | go_guarded | go_step | go_upon)
  have L0 := Loc.new w [.int .i64 0, .int .i64 0, .int .i64 0, .int .i64 0] 46
  have G : But b (b + 1) w _ := (But.refl b (b + 1) w).alloc (.cells #[.int .i64 0, .int .i64 0, .int .i64 0, .int .i64 0] 46)
  go_at_call 35
  refine (pick_ok _ b (K + 0) 8 (by repeat (first | with_reducible exact hC | refine CurOk.set ?_ (by omega) _ _ | refine CurOk.alloc ?_ _)) (by omega) (by omega)).mono ?_
  rintro e w1 ⟨x1, rfl, hx1, hC, hg⟩
  have hC : CurOk _ b (K + 2) := hC.le (by omega)
  
  have L0 : Loc _ w.heap.size [.int .i64 0, .int .i64 0, .int .i64 0, .int .i64 0] := Loc.but (by repeat (first | with_reducible exact L0 | refine Loc.other ?_ (by omega) _ | apply Loc.alloc)) hg (by omega)
  have G : But b (b + 1) w _ := But.trans (by repeat (first | with_reducible exact G | refine But.setNew ?_ (by first | with_reducible exact Nat.le_refl _ | (dsimp only; omega)) _ | refine But.drewN ?_ _ | refine But.alloc ?_ _)) hg
  clear hx1
  
  dsimp only
  repeat (first | go_values | go_skip | go_guarded | go_step | go_upon)
  go_at_call 35
  refine (pick_ok _ b (K + 2) 30 (by repeat (first | with_reducible exact hC | refine CurOk.set ?_ (by omega) _ _ | refine CurOk.alloc ?_ _)) (by omega) (by omega)).mono ?_
  rintro e w2 ⟨x2, rfl, hx2, hC, hg⟩
  have hC : CurOk _ b (K + 4) := hC.le (by omega)
  
  have L0 : Loc _ w.heap.size [.int .i64 0, .int .i64 0, .int .i64 0, .int .i64 0] := Loc.but (by repeat (first | with_reducible exact L0 | refine Loc.other ?_ (by omega) _ | apply Loc.alloc)) hg (by omega)
  have G : But b (b + 1) w _ := But.trans (by repeat (first | with_reducible exact G | refine But.setNew ?_ (by first | with_reducible exact Nat.le_refl _ | (dsimp only; omega)) _ | refine But.drewN ?_ _ | refine But.alloc ?_ _)) hg
  clear hx2
  
  dsimp only
  repeat (first | go_values | go_skip | go_guarded | go_step | go_upon)
  have hs : w.heap.size < w2.heap.size := L0.lt
  have L := Loc.new w2 [.int .i64 x1, .int .i64 (wrap64 (wrap64 (now + 1) + x2)), .int .i64 0, .int .i64 1] 46
  have hC := hC.alloc (.cells #[.int .i64 x1, .int .i64 (wrap64 (wrap64 (now + 1) + x2)), .int .i64 0, .int .i64 1] 46)
  have L0 := L0.alloc (.cells #[.int .i64 x1, .int .i64 (wrap64 (wrap64 (now + 1) + x2)), .int .i64 0, .int .i64 1] 46)
  have G := G.alloc (.cells #[.int .i64 x1, .int .i64 (wrap64 (wrap64 (now + 1) + x2)), .int .i64 0, .int .i64 1] 46)
  generalize wrap64 (wrap64 (now + 1) + x2) = at0 at *
  go_at_call 36
  refine (one_ok _ b (K + 4) 2 (by repeat (first | with_reducible exact hC | refine CurOk.set ?_ (by omega) _ _ | refine CurOk.alloc ?_ _)) (by omega) (by omega)).mono ?_
  rintro e w3 ⟨y3, rfl, hC, hg⟩
  have hC : CurOk _ b (K + 6) := hC.le (by omega)
  have L := Loc.but (b := w2.heap.size) (by repeat (first | with_reducible exact L | with_reducible apply Loc.set | with_reducible apply Loc.alloc)) hg (by omega)
  have L0 : Loc _ w.heap.size [.int .i64 0, .int .i64 0, .int .i64 0, .int .i64 0] := Loc.but (by repeat (first | with_reducible exact L0 | refine Loc.other ?_ (by omega) _ | apply Loc.alloc)) hg (by omega)
  have G : But b (b + 1) w _ := But.trans (by repeat (first | with_reducible exact G | refine But.setNew ?_ (by first | with_reducible exact Nat.le_refl _ | (dsimp only; omega)) _ | refine But.drewN ?_ _ | refine But.alloc ?_ _)) hg
  have a0 := L.cell 0 rfl
  have a1 := L.cell 1 rfl
  have a2 := L.cell 2 rfl
  have a3 := L.cell 3 rfl
  have f0 := L.frozen 0
  have f1 := L.frozen 1
  have f2 := L.frozen 2
  have f3 := L.frozen 3
  cases y3 <;> dsimp only
  
  · repeat (first | go_values | go_skip | go_guarded | go_step | go_upon)
    go_at_call 35
    refine (pick_ok _ b (K + 6) 40 (by repeat (first | with_reducible exact hC | refine CurOk.set ?_ (by omega) _ _ | refine CurOk.alloc ?_ _)) (by omega) (by omega)).mono ?_
    rintro e w4 ⟨x4, rfl, hx4, hC, hg⟩
    have hC : CurOk _ b (K + 8) := hC.le (by omega)
    have L := Loc.but (b := w2.heap.size) (by repeat (first | with_reducible exact L | with_reducible apply Loc.set | with_reducible apply Loc.alloc)) hg (by omega)
    have L0 : Loc _ w.heap.size [.int .i64 0, .int .i64 0, .int .i64 0, .int .i64 0] := Loc.but (by repeat (first | with_reducible exact L0 | refine Loc.other ?_ (by omega) _ | apply Loc.alloc)) hg (by omega)
    have G : But b (b + 1) w _ := But.trans (by repeat (first | with_reducible exact G | refine But.setNew ?_ (by first | with_reducible exact Nat.le_refl _ | (dsimp only; omega)) _ | refine But.drewN ?_ _ | refine But.alloc ?_ _)) hg
    
    have a0 := L.cell 0 rfl
    have a1 := L.cell 1 rfl
    have a2 := L.cell 2 rfl
    have a3 := L.cell 3 rfl
    have f0 := L.frozen 0
    have f1 := L.frozen 1
    have f2 := L.frozen 2
    have f3 := L.frozen 3
    by_cases z0 : x4 = 0
    · subst z0
      dsimp only
      repeat (first | go_values | go_skip | go_guarded | go_step | go_upon)
      go_at_call 37
      refine (among_ok _ b _ (K + 8) [0, 1000, 1001, 2] (by repeat (first | with_reducible exact hC | refine CurOk.set ?_ (by omega) _ _ | refine CurOk.alloc ?_ _)) (by omega) (by have := hC.lt; omega) (Listed.of (Loc.new _ _ _)) (by simp) (by simp) 4 rfl).mono ?_
      rintro e w9 ⟨z, rfl, -, hC, hg⟩
      have hC : CurOk _ b (K + 10) := hC.le (by omega)
      have L := Loc.but (b := w2.heap.size) (by repeat (first | with_reducible exact L | with_reducible apply Loc.set | with_reducible apply Loc.alloc)) hg (by omega)
      have L0 : Loc _ w.heap.size [.int .i64 0, .int .i64 0, .int .i64 0, .int .i64 0] := Loc.but (by repeat (first | with_reducible exact L0 | refine Loc.other ?_ (by omega) _ | apply Loc.alloc)) hg (by omega)
      have G : But b (b + 1) w _ := But.trans (by repeat (first | with_reducible exact G | refine But.setNew ?_ (by first | with_reducible exact Nat.le_refl _ | (dsimp only; omega)) _ | refine But.drewN ?_ _ | refine But.alloc ?_ _)) hg
      clear a0 a1 a2 a3 f0 f1 f2 f3
      have a0 := L.cell 0 rfl
      have a1 := L.cell 1 rfl
      have a2 := L.cell 2 rfl
      have a3 := L.cell 3 rfl
      have f0 := L.frozen 0
      have f1 := L.frozen 1
      have f2 := L.frozen 2
      have f3 := L.frozen 3
      have r0 := L0.cell 0 rfl
      have rf0 := L0.frozen 0
      have r1 := L0.cell 1 rfl
      have rf1 := L0.frozen 1
      have r2 := L0.cell 2 rfl
      have rf2 := L0.frozen 2
      have r3 := L0.cell 3 rfl
      have rf3 := L0.frozen 3
      have s0 : ((w9.setCell ⟨w2.heap.size, 3, none⟩ (.int .i64 z)).cell? ⟨w.heap.size, 0, none⟩).isSome = true := (some_setD (by rw [r0]; rfl))
      have s1 : ∀ u, (((w9.setCell ⟨w2.heap.size, 3, none⟩ (.int .i64 z)).setCell ⟨w.heap.size, 0, none⟩ u).cell? ⟨w.heap.size, 1, none⟩).isSome = true := fun _ => (some_setD (some_setD (by rw [r1]; rfl)))
      have s2 : ∀ u v, ((((w9.setCell ⟨w2.heap.size, 3, none⟩ (.int .i64 z)).setCell ⟨w.heap.size, 0, none⟩ u).setCell ⟨w.heap.size, 1, none⟩ v).cell? ⟨w.heap.size, 2, none⟩).isSome = true := fun _ _ => (some_setD (some_setD (some_setD (by rw [r2]; rfl))))
      have s3 : ∀ u v x, (((((w9.setCell ⟨w2.heap.size, 3, none⟩ (.int .i64 z)).setCell ⟨w.heap.size, 0, none⟩ u).setCell ⟨w.heap.size, 1, none⟩ v).setCell ⟨w.heap.size, 2, none⟩ x).cell? ⟨w.heap.size, 3, none⟩).isSome = true := fun _ _ _ => (some_setD (some_setD (some_setD (some_setD (by rw [r3]; rfl)))))
      have t0 : (w9.setCell ⟨w2.heap.size, 3, none⟩ (.int .i64 z)).cell? ⟨w.heap.size, 0, none⟩ = some (.int .i64 0) := (L0.other (by omega) _).cell 0 rfl
      have t1 : (w9.setCell ⟨w2.heap.size, 3, none⟩ (.int .i64 z)).cell? ⟨w.heap.size, 1, none⟩ = some (.int .i64 0) := (L0.other (by omega) _).cell 1 rfl
      have t2 : (w9.setCell ⟨w2.heap.size, 3, none⟩ (.int .i64 z)).cell? ⟨w.heap.size, 2, none⟩ = some (.int .i64 0) := (L0.other (by omega) _).cell 2 rfl
      have t3 : (w9.setCell ⟨w2.heap.size, 3, none⟩ (.int .i64 z)).cell? ⟨w.heap.size, 3, none⟩ = some (.int .i64 0) := (L0.other (by omega) _).cell 3 rfl
      dsimp only
      repeat (first | go_values | go_skip | go_guarded | go_step | go_upon)
      refine bodyPost_ret (v := .agg #[.int .i64 x1, .int .i64 at0, .int .i64 0, .int .i64 z]) (by simp [results, Try.results64, go_sem, r0, r1, r2, r3]) rfl ?_
      exact ⟨_, _, _, _, rfl, CurOk.le (K := K + 10) (by repeat (first | with_reducible exact hC | refine CurOk.set ?_ (by omega) _ _ | refine CurOk.alloc ?_ _)) (by omega), (by repeat (first | with_reducible exact G | refine But.setNew ?_ (by first | with_reducible exact Nat.le_refl _ | (dsimp only; omega)) _ | refine But.drewN ?_ _ | refine But.alloc ?_ _))⟩
    have d0 : (x4 == 0) = false := by simp; exact z0
    by_cases z1 : x4 = 1
    · subst z1
      dsimp only
      repeat (first | go_values | go_skip | go_guarded | go_step | go_upon)
      go_at_call 37
      refine (among_ok _ b _ (K + 8) [-1, 100000, 100001] (by repeat (first | with_reducible exact hC | refine CurOk.set ?_ (by omega) _ _ | refine CurOk.alloc ?_ _)) (by omega) (by have := hC.lt; omega) (Listed.of (Loc.new _ _ _)) (by simp) (by simp) 3 rfl).mono ?_
      rintro e w9 ⟨z, rfl, -, hC, hg⟩
      have hC : CurOk _ b (K + 10) := hC.le (by omega)
      have L := Loc.but (b := w2.heap.size) (by repeat (first | with_reducible exact L | with_reducible apply Loc.set | with_reducible apply Loc.alloc)) hg (by omega)
      have L0 : Loc _ w.heap.size [.int .i64 0, .int .i64 0, .int .i64 0, .int .i64 0] := Loc.but (by repeat (first | with_reducible exact L0 | refine Loc.other ?_ (by omega) _ | apply Loc.alloc)) hg (by omega)
      have G : But b (b + 1) w _ := But.trans (by repeat (first | with_reducible exact G | refine But.setNew ?_ (by first | with_reducible exact Nat.le_refl _ | (dsimp only; omega)) _ | refine But.drewN ?_ _ | refine But.alloc ?_ _)) hg
      clear a0 a1 a2 a3 f0 f1 f2 f3
      have a0 := L.cell 0 rfl
      have a1 := L.cell 1 rfl
      have a2 := L.cell 2 rfl
      have a3 := L.cell 3 rfl
      have f0 := L.frozen 0
      have f1 := L.frozen 1
      have f2 := L.frozen 2
      have f3 := L.frozen 3
      have r0 := L0.cell 0 rfl
      have rf0 := L0.frozen 0
      have r1 := L0.cell 1 rfl
      have rf1 := L0.frozen 1
      have r2 := L0.cell 2 rfl
      have rf2 := L0.frozen 2
      have r3 := L0.cell 3 rfl
      have rf3 := L0.frozen 3
      have s0 : ((w9.setCell ⟨w2.heap.size, 2, none⟩ (.int .i64 z)).cell? ⟨w.heap.size, 0, none⟩).isSome = true := (some_setD (by rw [r0]; rfl))
      have s1 : ∀ u, (((w9.setCell ⟨w2.heap.size, 2, none⟩ (.int .i64 z)).setCell ⟨w.heap.size, 0, none⟩ u).cell? ⟨w.heap.size, 1, none⟩).isSome = true := fun _ => (some_setD (some_setD (by rw [r1]; rfl)))
      have s2 : ∀ u v, ((((w9.setCell ⟨w2.heap.size, 2, none⟩ (.int .i64 z)).setCell ⟨w.heap.size, 0, none⟩ u).setCell ⟨w.heap.size, 1, none⟩ v).cell? ⟨w.heap.size, 2, none⟩).isSome = true := fun _ _ => (some_setD (some_setD (some_setD (by rw [r2]; rfl))))
      have s3 : ∀ u v x, (((((w9.setCell ⟨w2.heap.size, 2, none⟩ (.int .i64 z)).setCell ⟨w.heap.size, 0, none⟩ u).setCell ⟨w.heap.size, 1, none⟩ v).setCell ⟨w.heap.size, 2, none⟩ x).cell? ⟨w.heap.size, 3, none⟩).isSome = true := fun _ _ _ => (some_setD (some_setD (some_setD (some_setD (by rw [r3]; rfl)))))
      have t0 : (w9.setCell ⟨w2.heap.size, 2, none⟩ (.int .i64 z)).cell? ⟨w.heap.size, 0, none⟩ = some (.int .i64 0) := (L0.other (by omega) _).cell 0 rfl
      have t1 : (w9.setCell ⟨w2.heap.size, 2, none⟩ (.int .i64 z)).cell? ⟨w.heap.size, 1, none⟩ = some (.int .i64 0) := (L0.other (by omega) _).cell 1 rfl
      have t2 : (w9.setCell ⟨w2.heap.size, 2, none⟩ (.int .i64 z)).cell? ⟨w.heap.size, 2, none⟩ = some (.int .i64 0) := (L0.other (by omega) _).cell 2 rfl
      have t3 : (w9.setCell ⟨w2.heap.size, 2, none⟩ (.int .i64 z)).cell? ⟨w.heap.size, 3, none⟩ = some (.int .i64 0) := (L0.other (by omega) _).cell 3 rfl
      dsimp only
      repeat (first | go_values | go_skip | go_guarded | go_step | go_upon)
      refine bodyPost_ret (v := .agg #[.int .i64 x1, .int .i64 at0, .int .i64 z, .int .i64 1]) (by simp [results, Try.results64, go_sem, r0, r1, r2, r3]) rfl ?_
      exact ⟨_, _, _, _, rfl, CurOk.le (K := K + 10) (by repeat (first | with_reducible exact hC | refine CurOk.set ?_ (by omega) _ _ | refine CurOk.alloc ?_ _)) (by omega), (by repeat (first | with_reducible exact G | refine But.setNew ?_ (by first | with_reducible exact Nat.le_refl _ | (dsimp only; omega)) _ | refine But.drewN ?_ _ | refine But.alloc ?_ _))⟩
    have d1 : (x4 == 1) = false := by simp; exact z1
    by_cases z2 : x4 = 2
    · subst z2
      dsimp only
      repeat (first | go_values | go_skip | go_guarded | go_step | go_upon)
      go_at_call 37
      refine (among_ok _ b _ (K + 8) [now, 200000, 200001, 9223372036854775807] (by repeat (first | with_reducible exact hC | refine CurOk.set ?_ (by omega) _ _ | refine CurOk.alloc ?_ _)) (by omega) (by have := hC.lt; omega) (Listed.of (Loc.new _ _ _)) (by simp) (by simp) 4 rfl).mono ?_
      rintro e w9 ⟨z, rfl, -, hC, hg⟩
      have hC : CurOk _ b (K + 10) := hC.le (by omega)
      have L := Loc.but (b := w2.heap.size) (by repeat (first | with_reducible exact L | with_reducible apply Loc.set | with_reducible apply Loc.alloc)) hg (by omega)
      have L0 : Loc _ w.heap.size [.int .i64 0, .int .i64 0, .int .i64 0, .int .i64 0] := Loc.but (by repeat (first | with_reducible exact L0 | refine Loc.other ?_ (by omega) _ | apply Loc.alloc)) hg (by omega)
      have G : But b (b + 1) w _ := But.trans (by repeat (first | with_reducible exact G | refine But.setNew ?_ (by first | with_reducible exact Nat.le_refl _ | (dsimp only; omega)) _ | refine But.drewN ?_ _ | refine But.alloc ?_ _)) hg
      clear a0 a1 a2 a3 f0 f1 f2 f3
      have a0 := L.cell 0 rfl
      have a1 := L.cell 1 rfl
      have a2 := L.cell 2 rfl
      have a3 := L.cell 3 rfl
      have f0 := L.frozen 0
      have f1 := L.frozen 1
      have f2 := L.frozen 2
      have f3 := L.frozen 3
      have r0 := L0.cell 0 rfl
      have rf0 := L0.frozen 0
      have r1 := L0.cell 1 rfl
      have rf1 := L0.frozen 1
      have r2 := L0.cell 2 rfl
      have rf2 := L0.frozen 2
      have r3 := L0.cell 3 rfl
      have rf3 := L0.frozen 3
      have s0 : ((w9.setCell ⟨w2.heap.size, 1, none⟩ (.int .i64 z)).cell? ⟨w.heap.size, 0, none⟩).isSome = true := (some_setD (by rw [r0]; rfl))
      have s1 : ∀ u, (((w9.setCell ⟨w2.heap.size, 1, none⟩ (.int .i64 z)).setCell ⟨w.heap.size, 0, none⟩ u).cell? ⟨w.heap.size, 1, none⟩).isSome = true := fun _ => (some_setD (some_setD (by rw [r1]; rfl)))
      have s2 : ∀ u v, ((((w9.setCell ⟨w2.heap.size, 1, none⟩ (.int .i64 z)).setCell ⟨w.heap.size, 0, none⟩ u).setCell ⟨w.heap.size, 1, none⟩ v).cell? ⟨w.heap.size, 2, none⟩).isSome = true := fun _ _ => (some_setD (some_setD (some_setD (by rw [r2]; rfl))))
      have s3 : ∀ u v x, (((((w9.setCell ⟨w2.heap.size, 1, none⟩ (.int .i64 z)).setCell ⟨w.heap.size, 0, none⟩ u).setCell ⟨w.heap.size, 1, none⟩ v).setCell ⟨w.heap.size, 2, none⟩ x).cell? ⟨w.heap.size, 3, none⟩).isSome = true := fun _ _ _ => (some_setD (some_setD (some_setD (some_setD (by rw [r3]; rfl)))))
      have t0 : (w9.setCell ⟨w2.heap.size, 1, none⟩ (.int .i64 z)).cell? ⟨w.heap.size, 0, none⟩ = some (.int .i64 0) := (L0.other (by omega) _).cell 0 rfl
      have t1 : (w9.setCell ⟨w2.heap.size, 1, none⟩ (.int .i64 z)).cell? ⟨w.heap.size, 1, none⟩ = some (.int .i64 0) := (L0.other (by omega) _).cell 1 rfl
      have t2 : (w9.setCell ⟨w2.heap.size, 1, none⟩ (.int .i64 z)).cell? ⟨w.heap.size, 2, none⟩ = some (.int .i64 0) := (L0.other (by omega) _).cell 2 rfl
      have t3 : (w9.setCell ⟨w2.heap.size, 1, none⟩ (.int .i64 z)).cell? ⟨w.heap.size, 3, none⟩ = some (.int .i64 0) := (L0.other (by omega) _).cell 3 rfl
      dsimp only
      repeat (first | go_values | go_skip | go_guarded | go_step | go_upon)
      refine bodyPost_ret (v := .agg #[.int .i64 x1, .int .i64 z, .int .i64 0, .int .i64 1]) (by simp [results, Try.results64, go_sem, r0, r1, r2, r3]) rfl ?_
      exact ⟨_, _, _, _, rfl, CurOk.le (K := K + 10) (by repeat (first | with_reducible exact hC | refine CurOk.set ?_ (by omega) _ _ | refine CurOk.alloc ?_ _)) (by omega), (by repeat (first | with_reducible exact G | refine But.setNew ?_ (by first | with_reducible exact Nat.le_refl _ | (dsimp only; omega)) _ | refine But.drewN ?_ _ | refine But.alloc ?_ _))⟩
    have d2 : (x4 == 2) = false := by simp; exact z2
    by_cases z3 : x4 = 3
    · subst z3
      dsimp only
      repeat (first | go_values | go_skip | go_guarded | go_step | go_upon)
      go_at_call 37
      refine (among_ok _ b _ (K + 8) [-1, 999, 1000] (by repeat (first | with_reducible exact hC | refine CurOk.set ?_ (by omega) _ _ | refine CurOk.alloc ?_ _)) (by omega) (by have := hC.lt; omega) (Listed.of (Loc.new _ _ _)) (by simp) (by simp) 3 rfl).mono ?_
      rintro e w9 ⟨z, rfl, -, hC, hg⟩
      have hC : CurOk _ b (K + 10) := hC.le (by omega)
      have L := Loc.but (b := w2.heap.size) (by repeat (first | with_reducible exact L | with_reducible apply Loc.set | with_reducible apply Loc.alloc)) hg (by omega)
      have L0 : Loc _ w.heap.size [.int .i64 0, .int .i64 0, .int .i64 0, .int .i64 0] := Loc.but (by repeat (first | with_reducible exact L0 | refine Loc.other ?_ (by omega) _ | apply Loc.alloc)) hg (by omega)
      have G : But b (b + 1) w _ := But.trans (by repeat (first | with_reducible exact G | refine But.setNew ?_ (by first | with_reducible exact Nat.le_refl _ | (dsimp only; omega)) _ | refine But.drewN ?_ _ | refine But.alloc ?_ _)) hg
      clear a0 a1 a2 a3 f0 f1 f2 f3
      have a0 := L.cell 0 rfl
      have a1 := L.cell 1 rfl
      have a2 := L.cell 2 rfl
      have a3 := L.cell 3 rfl
      have f0 := L.frozen 0
      have f1 := L.frozen 1
      have f2 := L.frozen 2
      have f3 := L.frozen 3
      have r0 := L0.cell 0 rfl
      have rf0 := L0.frozen 0
      have r1 := L0.cell 1 rfl
      have rf1 := L0.frozen 1
      have r2 := L0.cell 2 rfl
      have rf2 := L0.frozen 2
      have r3 := L0.cell 3 rfl
      have rf3 := L0.frozen 3
      have s0 : ((w9.setCell ⟨w2.heap.size, 0, none⟩ (.int .i64 z)).cell? ⟨w.heap.size, 0, none⟩).isSome = true := (some_setD (by rw [r0]; rfl))
      have s1 : ∀ u, (((w9.setCell ⟨w2.heap.size, 0, none⟩ (.int .i64 z)).setCell ⟨w.heap.size, 0, none⟩ u).cell? ⟨w.heap.size, 1, none⟩).isSome = true := fun _ => (some_setD (some_setD (by rw [r1]; rfl)))
      have s2 : ∀ u v, ((((w9.setCell ⟨w2.heap.size, 0, none⟩ (.int .i64 z)).setCell ⟨w.heap.size, 0, none⟩ u).setCell ⟨w.heap.size, 1, none⟩ v).cell? ⟨w.heap.size, 2, none⟩).isSome = true := fun _ _ => (some_setD (some_setD (some_setD (by rw [r2]; rfl))))
      have s3 : ∀ u v x, (((((w9.setCell ⟨w2.heap.size, 0, none⟩ (.int .i64 z)).setCell ⟨w.heap.size, 0, none⟩ u).setCell ⟨w.heap.size, 1, none⟩ v).setCell ⟨w.heap.size, 2, none⟩ x).cell? ⟨w.heap.size, 3, none⟩).isSome = true := fun _ _ _ => (some_setD (some_setD (some_setD (some_setD (by rw [r3]; rfl)))))
      have t0 : (w9.setCell ⟨w2.heap.size, 0, none⟩ (.int .i64 z)).cell? ⟨w.heap.size, 0, none⟩ = some (.int .i64 0) := (L0.other (by omega) _).cell 0 rfl
      have t1 : (w9.setCell ⟨w2.heap.size, 0, none⟩ (.int .i64 z)).cell? ⟨w.heap.size, 1, none⟩ = some (.int .i64 0) := (L0.other (by omega) _).cell 1 rfl
      have t2 : (w9.setCell ⟨w2.heap.size, 0, none⟩ (.int .i64 z)).cell? ⟨w.heap.size, 2, none⟩ = some (.int .i64 0) := (L0.other (by omega) _).cell 2 rfl
      have t3 : (w9.setCell ⟨w2.heap.size, 0, none⟩ (.int .i64 z)).cell? ⟨w.heap.size, 3, none⟩ = some (.int .i64 0) := (L0.other (by omega) _).cell 3 rfl
      dsimp only
      repeat (first | go_values | go_skip | go_guarded | go_step | go_upon)
      refine bodyPost_ret (v := .agg #[.int .i64 z, .int .i64 at0, .int .i64 0, .int .i64 1]) (by simp [results, Try.results64, go_sem, r0, r1, r2, r3]) rfl ?_
      exact ⟨_, _, _, _, rfl, CurOk.le (K := K + 10) (by repeat (first | with_reducible exact hC | refine CurOk.set ?_ (by omega) _ _ | refine CurOk.alloc ?_ _)) (by omega), (by repeat (first | with_reducible exact G | refine But.setNew ?_ (by first | with_reducible exact Nat.le_refl _ | (dsimp only; omega)) _ | refine But.drewN ?_ _ | refine But.alloc ?_ _))⟩
    have d3 : (x4 == 3) = false := by simp; exact z3
    have r0 := L0.cell 0 rfl
    have rf0 := L0.frozen 0
    have r1 := L0.cell 1 rfl
    have rf1 := L0.frozen 1
    have r2 := L0.cell 2 rfl
    have rf2 := L0.frozen 2
    have r3 := L0.cell 3 rfl
    have rf3 := L0.frozen 3
    have s0 : (w4.cell? ⟨w.heap.size, 0, none⟩).isSome = true := (by rw [r0]; rfl)
    have s1 : ∀ u, ((w4.setCell ⟨w.heap.size, 0, none⟩ u).cell? ⟨w.heap.size, 1, none⟩).isSome = true := fun _ => (some_setD (by rw [r1]; rfl))
    have s2 : ∀ u v, (((w4.setCell ⟨w.heap.size, 0, none⟩ u).setCell ⟨w.heap.size, 1, none⟩ v).cell? ⟨w.heap.size, 2, none⟩).isSome = true := fun _ _ => (some_setD (some_setD (by rw [r2]; rfl)))
    have s3 : ∀ u v x, ((((w4.setCell ⟨w.heap.size, 0, none⟩ u).setCell ⟨w.heap.size, 1, none⟩ v).setCell ⟨w.heap.size, 2, none⟩ x).cell? ⟨w.heap.size, 3, none⟩).isSome = true := fun _ _ _ => (some_setD (some_setD (some_setD (by rw [r3]; rfl))))
    dsimp only
    repeat (first | go_values | go_skip | go_guarded | go_step | go_upon)
    refine bodyPost_ret (v := .agg #[.int .i64 x1, .int .i64 at0, .int .i64 0, .int .i64 1]) (by simp [results, Try.results64, go_sem, r0, r1, r2, r3]) rfl ?_
    exact ⟨_, _, _, _, rfl, CurOk.le (K := K + 8) (by repeat (first | with_reducible exact hC | refine CurOk.set ?_ (by omega) _ _ | refine CurOk.alloc ?_ _)) (by omega), (by repeat (first | with_reducible exact G | refine But.setNew ?_ (by first | with_reducible exact Nat.le_refl _ | (dsimp only; omega)) _ | refine But.drewN ?_ _ | refine But.alloc ?_ _))⟩
    
  · repeat (first | go_values | go_skip | go_guarded | go_step | go_upon)
    go_at_call 35
    refine (pick_ok _ b (K + 6) 9 (by repeat (first | with_reducible exact hC | refine CurOk.set ?_ (by omega) _ _ | refine CurOk.alloc ?_ _)) (by omega) (by omega)).mono ?_
    rintro e w4 ⟨x4, rfl, hx4, hC, hg⟩
    have hC : CurOk _ b (K + 8) := hC.le (by omega)
    have L := Loc.but (b := w2.heap.size) (by repeat (first | with_reducible exact L | with_reducible apply Loc.set | with_reducible apply Loc.alloc)) hg (by omega)
    have L0 : Loc _ w.heap.size [.int .i64 0, .int .i64 0, .int .i64 0, .int .i64 0] := Loc.but (by repeat (first | with_reducible exact L0 | refine Loc.other ?_ (by omega) _ | apply Loc.alloc)) hg (by omega)
    have G : But b (b + 1) w _ := But.trans (by repeat (first | with_reducible exact G | refine But.setNew ?_ (by first | with_reducible exact Nat.le_refl _ | (dsimp only; omega)) _ | refine But.drewN ?_ _ | refine But.alloc ?_ _)) hg
    clear hx4
    have a0 := L.cell 0 rfl
    have a1 := L.cell 1 rfl
    have a2 := L.cell 2 rfl
    have a3 := L.cell 3 rfl
    have f0 := L.frozen 0
    have f1 := L.frozen 1
    have f2 := L.frozen 2
    have f3 := L.frozen 3
    dsimp only
    repeat (first | go_values | go_skip | go_guarded | go_step | go_upon)
    go_at_call 35
    refine (pick_ok _ b (K + 8) 12 (by repeat (first | with_reducible exact hC | refine CurOk.set ?_ (by omega) _ _ | refine CurOk.alloc ?_ _)) (by omega) (by omega)).mono ?_
    rintro e w5 ⟨x5, rfl, hx5, hC, hg⟩
    have hC : CurOk _ b (K + 10) := hC.le (by omega)
    have L := Loc.but (b := w2.heap.size) (by repeat (first | with_reducible exact L | with_reducible apply Loc.set | with_reducible apply Loc.alloc)) hg (by omega)
    have L0 : Loc _ w.heap.size [.int .i64 0, .int .i64 0, .int .i64 0, .int .i64 0] := Loc.but (by repeat (first | with_reducible exact L0 | refine Loc.other ?_ (by omega) _ | apply Loc.alloc)) hg (by omega)
    have G : But b (b + 1) w _ := But.trans (by repeat (first | with_reducible exact G | refine But.setNew ?_ (by first | with_reducible exact Nat.le_refl _ | (dsimp only; omega)) _ | refine But.drewN ?_ _ | refine But.alloc ?_ _)) hg
    clear hx5
    have a0 := L.cell 0 rfl
    have a1 := L.cell 1 rfl
    have a2 := L.cell 2 rfl
    have a3 := L.cell 3 rfl
    have f0 := L.frozen 0
    have f1 := L.frozen 1
    have f2 := L.frozen 2
    have f3 := L.frozen 3
    dsimp only
    repeat (first | go_values | go_skip | go_guarded | go_step | go_upon)
    go_at_call 35
    refine (pick_ok _ b (K + 10) 40 (by repeat (first | with_reducible exact hC | refine CurOk.set ?_ (by omega) _ _ | refine CurOk.alloc ?_ _)) (by omega) (by omega)).mono ?_
    rintro e w6 ⟨x6, rfl, hx6, hC, hg⟩
    have hC : CurOk _ b (K + 12) := hC.le (by omega)
    have L := Loc.but (b := w2.heap.size) (by repeat (first | with_reducible exact L | with_reducible apply Loc.set | with_reducible apply Loc.alloc)) hg (by omega)
    have L0 : Loc _ w.heap.size [.int .i64 0, .int .i64 0, .int .i64 0, .int .i64 0] := Loc.but (by repeat (first | with_reducible exact L0 | refine Loc.other ?_ (by omega) _ | apply Loc.alloc)) hg (by omega)
    have G : But b (b + 1) w _ := But.trans (by repeat (first | with_reducible exact G | refine But.setNew ?_ (by first | with_reducible exact Nat.le_refl _ | (dsimp only; omega)) _ | refine But.drewN ?_ _ | refine But.alloc ?_ _)) hg
    
    have a0 := L.cell 0 rfl
    have a1 := L.cell 1 rfl
    have a2 := L.cell 2 rfl
    have a3 := L.cell 3 rfl
    have f0 := L.frozen 0
    have f1 := L.frozen 1
    have f2 := L.frozen 2
    have f3 := L.frozen 3
    by_cases z0 : x6 = 0
    · subst z0
      dsimp only
      repeat (first | go_values | go_skip | go_guarded | go_step | go_upon)
      go_at_call 37
      refine (among_ok _ b _ (K + 12) [0, 1000, 1001, 2] (by repeat (first | with_reducible exact hC | refine CurOk.set ?_ (by omega) _ _ | refine CurOk.alloc ?_ _)) (by omega) (by have := hC.lt; omega) (Listed.of (Loc.new _ _ _)) (by simp) (by simp) 4 rfl).mono ?_
      rintro e w9 ⟨z, rfl, -, hC, hg⟩
      have hC : CurOk _ b (K + 14) := hC.le (by omega)
      have L := Loc.but (b := w2.heap.size) (by repeat (first | with_reducible exact L | with_reducible apply Loc.set | with_reducible apply Loc.alloc)) hg (by omega)
      have L0 : Loc _ w.heap.size [.int .i64 0, .int .i64 0, .int .i64 0, .int .i64 0] := Loc.but (by repeat (first | with_reducible exact L0 | refine Loc.other ?_ (by omega) _ | apply Loc.alloc)) hg (by omega)
      have G : But b (b + 1) w _ := But.trans (by repeat (first | with_reducible exact G | refine But.setNew ?_ (by first | with_reducible exact Nat.le_refl _ | (dsimp only; omega)) _ | refine But.drewN ?_ _ | refine But.alloc ?_ _)) hg
      clear a0 a1 a2 a3 f0 f1 f2 f3
      have a0 := L.cell 0 rfl
      have a1 := L.cell 1 rfl
      have a2 := L.cell 2 rfl
      have a3 := L.cell 3 rfl
      have f0 := L.frozen 0
      have f1 := L.frozen 1
      have f2 := L.frozen 2
      have f3 := L.frozen 3
      have r0 := L0.cell 0 rfl
      have rf0 := L0.frozen 0
      have r1 := L0.cell 1 rfl
      have rf1 := L0.frozen 1
      have r2 := L0.cell 2 rfl
      have rf2 := L0.frozen 2
      have r3 := L0.cell 3 rfl
      have rf3 := L0.frozen 3
      have s0 : ((w9.setCell ⟨w2.heap.size, 3, none⟩ (.int .i64 z)).cell? ⟨w.heap.size, 0, none⟩).isSome = true := (some_setD (by rw [r0]; rfl))
      have s1 : ∀ u, (((w9.setCell ⟨w2.heap.size, 3, none⟩ (.int .i64 z)).setCell ⟨w.heap.size, 0, none⟩ u).cell? ⟨w.heap.size, 1, none⟩).isSome = true := fun _ => (some_setD (some_setD (by rw [r1]; rfl)))
      have s2 : ∀ u v, ((((w9.setCell ⟨w2.heap.size, 3, none⟩ (.int .i64 z)).setCell ⟨w.heap.size, 0, none⟩ u).setCell ⟨w.heap.size, 1, none⟩ v).cell? ⟨w.heap.size, 2, none⟩).isSome = true := fun _ _ => (some_setD (some_setD (some_setD (by rw [r2]; rfl))))
      have s3 : ∀ u v x, (((((w9.setCell ⟨w2.heap.size, 3, none⟩ (.int .i64 z)).setCell ⟨w.heap.size, 0, none⟩ u).setCell ⟨w.heap.size, 1, none⟩ v).setCell ⟨w.heap.size, 2, none⟩ x).cell? ⟨w.heap.size, 3, none⟩).isSome = true := fun _ _ _ => (some_setD (some_setD (some_setD (some_setD (by rw [r3]; rfl)))))
      have t0 : (w9.setCell ⟨w2.heap.size, 3, none⟩ (.int .i64 z)).cell? ⟨w.heap.size, 0, none⟩ = some (.int .i64 0) := (L0.other (by omega) _).cell 0 rfl
      have t1 : (w9.setCell ⟨w2.heap.size, 3, none⟩ (.int .i64 z)).cell? ⟨w.heap.size, 1, none⟩ = some (.int .i64 0) := (L0.other (by omega) _).cell 1 rfl
      have t2 : (w9.setCell ⟨w2.heap.size, 3, none⟩ (.int .i64 z)).cell? ⟨w.heap.size, 2, none⟩ = some (.int .i64 0) := (L0.other (by omega) _).cell 2 rfl
      have t3 : (w9.setCell ⟨w2.heap.size, 3, none⟩ (.int .i64 z)).cell? ⟨w.heap.size, 3, none⟩ = some (.int .i64 0) := (L0.other (by omega) _).cell 3 rfl
      dsimp only
      repeat (first | go_values | go_skip | go_guarded | go_step | go_upon)
      refine bodyPost_ret (v := .agg #[.int .i64 x1, .int .i64 at0, .int .i64 (wrap64 (1 + x4)), .int .i64 z]) (by simp [results, Try.results64, go_sem, r0, r1, r2, r3]) rfl ?_
      exact ⟨_, _, _, _, rfl, CurOk.le (K := K + 14) (by repeat (first | with_reducible exact hC | refine CurOk.set ?_ (by omega) _ _ | refine CurOk.alloc ?_ _)) (by omega), (by repeat (first | with_reducible exact G | refine But.setNew ?_ (by first | with_reducible exact Nat.le_refl _ | (dsimp only; omega)) _ | refine But.drewN ?_ _ | refine But.alloc ?_ _))⟩
    have d0 : (x6 == 0) = false := by simp; exact z0
    by_cases z1 : x6 = 1
    · subst z1
      dsimp only
      repeat (first | go_values | go_skip | go_guarded | go_step | go_upon)
      go_at_call 37
      refine (among_ok _ b _ (K + 12) [-1, 100000, 100001] (by repeat (first | with_reducible exact hC | refine CurOk.set ?_ (by omega) _ _ | refine CurOk.alloc ?_ _)) (by omega) (by have := hC.lt; omega) (Listed.of (Loc.new _ _ _)) (by simp) (by simp) 3 rfl).mono ?_
      rintro e w9 ⟨z, rfl, -, hC, hg⟩
      have hC : CurOk _ b (K + 14) := hC.le (by omega)
      have L := Loc.but (b := w2.heap.size) (by repeat (first | with_reducible exact L | with_reducible apply Loc.set | with_reducible apply Loc.alloc)) hg (by omega)
      have L0 : Loc _ w.heap.size [.int .i64 0, .int .i64 0, .int .i64 0, .int .i64 0] := Loc.but (by repeat (first | with_reducible exact L0 | refine Loc.other ?_ (by omega) _ | apply Loc.alloc)) hg (by omega)
      have G : But b (b + 1) w _ := But.trans (by repeat (first | with_reducible exact G | refine But.setNew ?_ (by first | with_reducible exact Nat.le_refl _ | (dsimp only; omega)) _ | refine But.drewN ?_ _ | refine But.alloc ?_ _)) hg
      clear a0 a1 a2 a3 f0 f1 f2 f3
      have a0 := L.cell 0 rfl
      have a1 := L.cell 1 rfl
      have a2 := L.cell 2 rfl
      have a3 := L.cell 3 rfl
      have f0 := L.frozen 0
      have f1 := L.frozen 1
      have f2 := L.frozen 2
      have f3 := L.frozen 3
      have r0 := L0.cell 0 rfl
      have rf0 := L0.frozen 0
      have r1 := L0.cell 1 rfl
      have rf1 := L0.frozen 1
      have r2 := L0.cell 2 rfl
      have rf2 := L0.frozen 2
      have r3 := L0.cell 3 rfl
      have rf3 := L0.frozen 3
      have s0 : ((w9.setCell ⟨w2.heap.size, 2, none⟩ (.int .i64 z)).cell? ⟨w.heap.size, 0, none⟩).isSome = true := (some_setD (by rw [r0]; rfl))
      have s1 : ∀ u, (((w9.setCell ⟨w2.heap.size, 2, none⟩ (.int .i64 z)).setCell ⟨w.heap.size, 0, none⟩ u).cell? ⟨w.heap.size, 1, none⟩).isSome = true := fun _ => (some_setD (some_setD (by rw [r1]; rfl)))
      have s2 : ∀ u v, ((((w9.setCell ⟨w2.heap.size, 2, none⟩ (.int .i64 z)).setCell ⟨w.heap.size, 0, none⟩ u).setCell ⟨w.heap.size, 1, none⟩ v).cell? ⟨w.heap.size, 2, none⟩).isSome = true := fun _ _ => (some_setD (some_setD (some_setD (by rw [r2]; rfl))))
      have s3 : ∀ u v x, (((((w9.setCell ⟨w2.heap.size, 2, none⟩ (.int .i64 z)).setCell ⟨w.heap.size, 0, none⟩ u).setCell ⟨w.heap.size, 1, none⟩ v).setCell ⟨w.heap.size, 2, none⟩ x).cell? ⟨w.heap.size, 3, none⟩).isSome = true := fun _ _ _ => (some_setD (some_setD (some_setD (some_setD (by rw [r3]; rfl)))))
      have t0 : (w9.setCell ⟨w2.heap.size, 2, none⟩ (.int .i64 z)).cell? ⟨w.heap.size, 0, none⟩ = some (.int .i64 0) := (L0.other (by omega) _).cell 0 rfl
      have t1 : (w9.setCell ⟨w2.heap.size, 2, none⟩ (.int .i64 z)).cell? ⟨w.heap.size, 1, none⟩ = some (.int .i64 0) := (L0.other (by omega) _).cell 1 rfl
      have t2 : (w9.setCell ⟨w2.heap.size, 2, none⟩ (.int .i64 z)).cell? ⟨w.heap.size, 2, none⟩ = some (.int .i64 0) := (L0.other (by omega) _).cell 2 rfl
      have t3 : (w9.setCell ⟨w2.heap.size, 2, none⟩ (.int .i64 z)).cell? ⟨w.heap.size, 3, none⟩ = some (.int .i64 0) := (L0.other (by omega) _).cell 3 rfl
      dsimp only
      repeat (first | go_values | go_skip | go_guarded | go_step | go_upon)
      refine bodyPost_ret (v := .agg #[.int .i64 x1, .int .i64 at0, .int .i64 z, .int .i64 (wrap64 (1 + x5))]) (by simp [results, Try.results64, go_sem, r0, r1, r2, r3]) rfl ?_
      exact ⟨_, _, _, _, rfl, CurOk.le (K := K + 14) (by repeat (first | with_reducible exact hC | refine CurOk.set ?_ (by omega) _ _ | refine CurOk.alloc ?_ _)) (by omega), (by repeat (first | with_reducible exact G | refine But.setNew ?_ (by first | with_reducible exact Nat.le_refl _ | (dsimp only; omega)) _ | refine But.drewN ?_ _ | refine But.alloc ?_ _))⟩
    have d1 : (x6 == 1) = false := by simp; exact z1
    by_cases z2 : x6 = 2
    · subst z2
      dsimp only
      repeat (first | go_values | go_skip | go_guarded | go_step | go_upon)
      go_at_call 37
      refine (among_ok _ b _ (K + 12) [now, 200000, 200001, 9223372036854775807] (by repeat (first | with_reducible exact hC | refine CurOk.set ?_ (by omega) _ _ | refine CurOk.alloc ?_ _)) (by omega) (by have := hC.lt; omega) (Listed.of (Loc.new _ _ _)) (by simp) (by simp) 4 rfl).mono ?_
      rintro e w9 ⟨z, rfl, -, hC, hg⟩
      have hC : CurOk _ b (K + 14) := hC.le (by omega)
      have L := Loc.but (b := w2.heap.size) (by repeat (first | with_reducible exact L | with_reducible apply Loc.set | with_reducible apply Loc.alloc)) hg (by omega)
      have L0 : Loc _ w.heap.size [.int .i64 0, .int .i64 0, .int .i64 0, .int .i64 0] := Loc.but (by repeat (first | with_reducible exact L0 | refine Loc.other ?_ (by omega) _ | apply Loc.alloc)) hg (by omega)
      have G : But b (b + 1) w _ := But.trans (by repeat (first | with_reducible exact G | refine But.setNew ?_ (by first | with_reducible exact Nat.le_refl _ | (dsimp only; omega)) _ | refine But.drewN ?_ _ | refine But.alloc ?_ _)) hg
      clear a0 a1 a2 a3 f0 f1 f2 f3
      have a0 := L.cell 0 rfl
      have a1 := L.cell 1 rfl
      have a2 := L.cell 2 rfl
      have a3 := L.cell 3 rfl
      have f0 := L.frozen 0
      have f1 := L.frozen 1
      have f2 := L.frozen 2
      have f3 := L.frozen 3
      have r0 := L0.cell 0 rfl
      have rf0 := L0.frozen 0
      have r1 := L0.cell 1 rfl
      have rf1 := L0.frozen 1
      have r2 := L0.cell 2 rfl
      have rf2 := L0.frozen 2
      have r3 := L0.cell 3 rfl
      have rf3 := L0.frozen 3
      have s0 : ((w9.setCell ⟨w2.heap.size, 1, none⟩ (.int .i64 z)).cell? ⟨w.heap.size, 0, none⟩).isSome = true := (some_setD (by rw [r0]; rfl))
      have s1 : ∀ u, (((w9.setCell ⟨w2.heap.size, 1, none⟩ (.int .i64 z)).setCell ⟨w.heap.size, 0, none⟩ u).cell? ⟨w.heap.size, 1, none⟩).isSome = true := fun _ => (some_setD (some_setD (by rw [r1]; rfl)))
      have s2 : ∀ u v, ((((w9.setCell ⟨w2.heap.size, 1, none⟩ (.int .i64 z)).setCell ⟨w.heap.size, 0, none⟩ u).setCell ⟨w.heap.size, 1, none⟩ v).cell? ⟨w.heap.size, 2, none⟩).isSome = true := fun _ _ => (some_setD (some_setD (some_setD (by rw [r2]; rfl))))
      have s3 : ∀ u v x, (((((w9.setCell ⟨w2.heap.size, 1, none⟩ (.int .i64 z)).setCell ⟨w.heap.size, 0, none⟩ u).setCell ⟨w.heap.size, 1, none⟩ v).setCell ⟨w.heap.size, 2, none⟩ x).cell? ⟨w.heap.size, 3, none⟩).isSome = true := fun _ _ _ => (some_setD (some_setD (some_setD (some_setD (by rw [r3]; rfl)))))
      have t0 : (w9.setCell ⟨w2.heap.size, 1, none⟩ (.int .i64 z)).cell? ⟨w.heap.size, 0, none⟩ = some (.int .i64 0) := (L0.other (by omega) _).cell 0 rfl
      have t1 : (w9.setCell ⟨w2.heap.size, 1, none⟩ (.int .i64 z)).cell? ⟨w.heap.size, 1, none⟩ = some (.int .i64 0) := (L0.other (by omega) _).cell 1 rfl
      have t2 : (w9.setCell ⟨w2.heap.size, 1, none⟩ (.int .i64 z)).cell? ⟨w.heap.size, 2, none⟩ = some (.int .i64 0) := (L0.other (by omega) _).cell 2 rfl
      have t3 : (w9.setCell ⟨w2.heap.size, 1, none⟩ (.int .i64 z)).cell? ⟨w.heap.size, 3, none⟩ = some (.int .i64 0) := (L0.other (by omega) _).cell 3 rfl
      dsimp only
      repeat (first | go_values | go_skip | go_guarded | go_step | go_upon)
      refine bodyPost_ret (v := .agg #[.int .i64 x1, .int .i64 z, .int .i64 (wrap64 (1 + x4)), .int .i64 (wrap64 (1 + x5))]) (by simp [results, Try.results64, go_sem, r0, r1, r2, r3]) rfl ?_
      exact ⟨_, _, _, _, rfl, CurOk.le (K := K + 14) (by repeat (first | with_reducible exact hC | refine CurOk.set ?_ (by omega) _ _ | refine CurOk.alloc ?_ _)) (by omega), (by repeat (first | with_reducible exact G | refine But.setNew ?_ (by first | with_reducible exact Nat.le_refl _ | (dsimp only; omega)) _ | refine But.drewN ?_ _ | refine But.alloc ?_ _))⟩
    have d2 : (x6 == 2) = false := by simp; exact z2
    by_cases z3 : x6 = 3
    · subst z3
      dsimp only
      repeat (first | go_values | go_skip | go_guarded | go_step | go_upon)
      go_at_call 37
      refine (among_ok _ b _ (K + 12) [-1, 999, 1000] (by repeat (first | with_reducible exact hC | refine CurOk.set ?_ (by omega) _ _ | refine CurOk.alloc ?_ _)) (by omega) (by have := hC.lt; omega) (Listed.of (Loc.new _ _ _)) (by simp) (by simp) 3 rfl).mono ?_
      rintro e w9 ⟨z, rfl, -, hC, hg⟩
      have hC : CurOk _ b (K + 14) := hC.le (by omega)
      have L := Loc.but (b := w2.heap.size) (by repeat (first | with_reducible exact L | with_reducible apply Loc.set | with_reducible apply Loc.alloc)) hg (by omega)
      have L0 : Loc _ w.heap.size [.int .i64 0, .int .i64 0, .int .i64 0, .int .i64 0] := Loc.but (by repeat (first | with_reducible exact L0 | refine Loc.other ?_ (by omega) _ | apply Loc.alloc)) hg (by omega)
      have G : But b (b + 1) w _ := But.trans (by repeat (first | with_reducible exact G | refine But.setNew ?_ (by first | with_reducible exact Nat.le_refl _ | (dsimp only; omega)) _ | refine But.drewN ?_ _ | refine But.alloc ?_ _)) hg
      clear a0 a1 a2 a3 f0 f1 f2 f3
      have a0 := L.cell 0 rfl
      have a1 := L.cell 1 rfl
      have a2 := L.cell 2 rfl
      have a3 := L.cell 3 rfl
      have f0 := L.frozen 0
      have f1 := L.frozen 1
      have f2 := L.frozen 2
      have f3 := L.frozen 3
      have r0 := L0.cell 0 rfl
      have rf0 := L0.frozen 0
      have r1 := L0.cell 1 rfl
      have rf1 := L0.frozen 1
      have r2 := L0.cell 2 rfl
      have rf2 := L0.frozen 2
      have r3 := L0.cell 3 rfl
      have rf3 := L0.frozen 3
      have s0 : ((w9.setCell ⟨w2.heap.size, 0, none⟩ (.int .i64 z)).cell? ⟨w.heap.size, 0, none⟩).isSome = true := (some_setD (by rw [r0]; rfl))
      have s1 : ∀ u, (((w9.setCell ⟨w2.heap.size, 0, none⟩ (.int .i64 z)).setCell ⟨w.heap.size, 0, none⟩ u).cell? ⟨w.heap.size, 1, none⟩).isSome = true := fun _ => (some_setD (some_setD (by rw [r1]; rfl)))
      have s2 : ∀ u v, ((((w9.setCell ⟨w2.heap.size, 0, none⟩ (.int .i64 z)).setCell ⟨w.heap.size, 0, none⟩ u).setCell ⟨w.heap.size, 1, none⟩ v).cell? ⟨w.heap.size, 2, none⟩).isSome = true := fun _ _ => (some_setD (some_setD (some_setD (by rw [r2]; rfl))))
      have s3 : ∀ u v x, (((((w9.setCell ⟨w2.heap.size, 0, none⟩ (.int .i64 z)).setCell ⟨w.heap.size, 0, none⟩ u).setCell ⟨w.heap.size, 1, none⟩ v).setCell ⟨w.heap.size, 2, none⟩ x).cell? ⟨w.heap.size, 3, none⟩).isSome = true := fun _ _ _ => (some_setD (some_setD (some_setD (some_setD (by rw [r3]; rfl)))))
      have t0 : (w9.setCell ⟨w2.heap.size, 0, none⟩ (.int .i64 z)).cell? ⟨w.heap.size, 0, none⟩ = some (.int .i64 0) := (L0.other (by omega) _).cell 0 rfl
      have t1 : (w9.setCell ⟨w2.heap.size, 0, none⟩ (.int .i64 z)).cell? ⟨w.heap.size, 1, none⟩ = some (.int .i64 0) := (L0.other (by omega) _).cell 1 rfl
      have t2 : (w9.setCell ⟨w2.heap.size, 0, none⟩ (.int .i64 z)).cell? ⟨w.heap.size, 2, none⟩ = some (.int .i64 0) := (L0.other (by omega) _).cell 2 rfl
      have t3 : (w9.setCell ⟨w2.heap.size, 0, none⟩ (.int .i64 z)).cell? ⟨w.heap.size, 3, none⟩ = some (.int .i64 0) := (L0.other (by omega) _).cell 3 rfl
      dsimp only
      repeat (first | go_values | go_skip | go_guarded | go_step | go_upon)
      refine bodyPost_ret (v := .agg #[.int .i64 z, .int .i64 at0, .int .i64 (wrap64 (1 + x4)), .int .i64 (wrap64 (1 + x5))]) (by simp [results, Try.results64, go_sem, r0, r1, r2, r3]) rfl ?_
      exact ⟨_, _, _, _, rfl, CurOk.le (K := K + 14) (by repeat (first | with_reducible exact hC | refine CurOk.set ?_ (by omega) _ _ | refine CurOk.alloc ?_ _)) (by omega), (by repeat (first | with_reducible exact G | refine But.setNew ?_ (by first | with_reducible exact Nat.le_refl _ | (dsimp only; omega)) _ | refine But.drewN ?_ _ | refine But.alloc ?_ _))⟩
    have d3 : (x6 == 3) = false := by simp; exact z3
    have r0 := L0.cell 0 rfl
    have rf0 := L0.frozen 0
    have r1 := L0.cell 1 rfl
    have rf1 := L0.frozen 1
    have r2 := L0.cell 2 rfl
    have rf2 := L0.frozen 2
    have r3 := L0.cell 3 rfl
    have rf3 := L0.frozen 3
    have s0 : (w6.cell? ⟨w.heap.size, 0, none⟩).isSome = true := (by rw [r0]; rfl)
    have s1 : ∀ u, ((w6.setCell ⟨w.heap.size, 0, none⟩ u).cell? ⟨w.heap.size, 1, none⟩).isSome = true := fun _ => (some_setD (by rw [r1]; rfl))
    have s2 : ∀ u v, (((w6.setCell ⟨w.heap.size, 0, none⟩ u).setCell ⟨w.heap.size, 1, none⟩ v).cell? ⟨w.heap.size, 2, none⟩).isSome = true := fun _ _ => (some_setD (some_setD (by rw [r2]; rfl)))
    have s3 : ∀ u v x, ((((w6.setCell ⟨w.heap.size, 0, none⟩ u).setCell ⟨w.heap.size, 1, none⟩ v).setCell ⟨w.heap.size, 2, none⟩ x).cell? ⟨w.heap.size, 3, none⟩).isSome = true := fun _ _ _ => (some_setD (some_setD (some_setD (by rw [r3]; rfl))))
    dsimp only
    repeat (first | go_values | go_skip | go_guarded | go_step | go_upon)
    refine bodyPost_ret (v := .agg #[.int .i64 x1, .int .i64 at0, .int .i64 (wrap64 (1 + x4)), .int .i64 (wrap64 (1 + x5))]) (by simp [results, Try.results64, go_sem, r0, r1, r2, r3]) rfl ?_
    exact ⟨_, _, _, _, rfl, CurOk.le (K := K + 12) (by repeat (first | with_reducible exact hC | refine CurOk.set ?_ (by omega) _ _ | refine CurOk.alloc ?_ _)) (by omega), (by repeat (first | with_reducible exact G | refine But.setNew ?_ (by first | with_reducible exact Nat.le_refl _ | (dsimp only; omega)) _ | refine But.drewN ?_ _ | refine But.alloc ?_ _))⟩
    
end Go.Proofs.Ythihgjcnjgpegaa
