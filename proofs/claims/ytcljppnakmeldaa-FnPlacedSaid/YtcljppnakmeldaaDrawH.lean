/-
  What the drawing answers of a spot, of a scene and a place in it, and of a scene with two places: some of them, the scene in memory of its own; all that was there is as it was.
-/
import Derived.Test.YtcljppnakmeldaaDraw
namespace Go.Proofs.Ytcljppnakmeldaa
open Go.ChangeShapes Go.WideShapes Go.ChangeAt Go.RowKit

theorem Code.kept {w w' : World} {ao : Option Addr} {len : Nat} (h : Code w ao len) (k : Kept w w') : Code w' ao len := fun i hi => by
  obtain ⟨ab, off, c, e, hc, hb⟩ := h i hi
  exact ⟨ab, off, c, e, k.cell hc, hb⟩
theorem Code.cur40 {W : World} {ao : Option Addr} {len cap : Nat} {t : TypeId} (h : Code W ao len) (hl : len ≤ 9223372036854775807) : CurOk (W.alloc (.cells #[.slice ao len cap, .int .i64 40, .int .u64 0] t)) W.heap.size 40 := by
  refine ⟨ao, len, cap, 40, 0, ⟨Loc.new W _ t, by omega, by omega, by omega, hl, fun i hi => ?_⟩, by omega⟩
  obtain ⟨ab, off, c, e, hc, hb⟩ := h i hi
  have hs := block_of_cell hc
  exact ⟨ab, off, c, e, by omega, Kept.cell ((But.refl _ _ W).alloc _) hc, hb⟩

set_option maxRecDepth 100000 in
set_option maxHeartbeats 4000000 in
theorem drawSpot (ao : Option Addr) (len cap : Nat) (w : World) (h : Code w ao len) (hl : len ≤ 9223372036854775807) :
    Calls Try.prog 12 #[.slice ao len cap] w fun e w' => ∃ s : SpotD, e = .returned (sv s) ∧ Kept w w' := by
  go_enter Try.func12, Try.ntmps12
  repeat (first | go_values | go_skip | go_guarded | go_step | go_upon)
  go_at_call 37
  have hcu := (h.kept ((But.refl _ _ w).alloc (.cells #[.int .i64 0, .int .i64 0, .int .i64 0, .bool false] 24))).cur (cap := cap) (t := 59) hl
  have es : (w.alloc (.cells #[.int .i64 0, .int .i64 0, .int .i64 0, .bool false] 24)).heap.size = w.heap.size + 1 := by simp
  rw [es] at hcu
  have L0 := (Loc.new w [.int .i64 0, .int .i64 0, .int .i64 0, .bool false] 24).alloc (.cells #[.slice ao len cap, .int .i64 0, .int .u64 0] 59)
  have K0 : Kept w ((w.alloc (.cells #[.int .i64 0, .int .i64 0, .int .i64 0, .bool false] 24)).alloc (.cells #[.slice ao len cap, .int .i64 0, .int .u64 0] 59)) := ((But.refl _ _ w).alloc _).alloc _
  refine (spot_ok _ (w.heap.size + 1) 0 hcu (by omega)).mono ?_
  rintro e w1 ⟨⟨sx, sy, st, sf⟩, rfl, hC, hg⟩
  have L0 := L0.but hg (by omega)
  have K1 : Kept w w1 := K0.onto hg (by omega)
  clear es hg K0 hcu hC
  have r0 := L0.cell 0 rfl
  have r1 := L0.cell 1 rfl
  have r2 := L0.cell 2 rfl
  have r3 := L0.cell 3 rfl
  have rf0 := L0.frozen 0
  have rf1 := L0.frozen 1
  have rf2 := L0.frozen 2
  have rf3 := L0.frozen 3
  have s1 := L0.some1 (y := .int .i64 0) rfl
  have s2 := L0.some2 (y := .int .i64 0) rfl
  have s3 := L0.some3 (y := .bool false) rfl
  dsimp only [sv]
  repeat (first | go_values | go_skip | go_guarded | go_step | go_upon)
  have k4 : But w.heap.size (w.heap.size + 1) w1 ((((w1.setCell ⟨w.heap.size, 0, none⟩ (.int .i64 sx)).setCell ⟨w.heap.size, 1, none⟩ (.int .i64 sy)).setCell ⟨w.heap.size, 2, none⟩ (.int .i64 st)).setCell ⟨w.heap.size, 3, none⟩ (.bool sf)) := but_sets4 _ _ _ _ _ _
  have LF := (((L0.set 0 (.int .i64 sx)).set 1 (.int .i64 sy)).set 2 (.int .i64 st)).set 3 (.bool sf)
  have c0 := LF.cell 0 rfl
  have c1 := LF.cell 1 rfl
  have c2 := LF.cell 2 rfl
  have c3 := LF.cell 3 rfl
  refine bodyPost_ret (v := .agg #[.int .i64 sx, .int .i64 sy, .int .i64 st, .bool sf]) (by simp [results, Try.results12, go_sem, r0, r1, r2, r3]) rfl ?_
  exact ⟨(sx, sy, st, sf), rfl, K1.onto k4 (Nat.le_refl _)⟩

set_option maxRecDepth 100000 in
set_option maxHeartbeats 4000000 in
theorem drawL (ao : Option Addr) (len cap : Nat) (w : World) (h : Code w ao len) (hl : len ≤ 9223372036854775807) :
    Calls Try.prog 43 #[.slice ao len cap] w fun e w' => ∃ v l a, e = .returned (.tuple #[v, .int .i64 a]) ∧ NodeO w' w.heap.size w'.heap.size v l ∧ l.length ≤ 41 ∧ (∀ p ∈ l, p.1.size ≤ 4) ∧ -1 ≤ a ∧ a ≤ 50 ∧ Kept w w' := by
  go_enter Try.func43, Try.ntmps43
  repeat (first | go_values | go_skip | go_guarded | go_step | go_upon)
  go_at_call 68
  have hcu := h.cur (cap := cap) (t := 59) hl
  have K0 : Kept w (w.alloc (.cells #[.slice ao len cap, .int .i64 0, .int .u64 0] 59)) := (But.refl _ _ w).alloc _
  refine (scene_ok _ w.heap.size 0 hcu (by omega)).mono ?_
  rintro e w1 ⟨v, l, rfl, Wy, hl41⟩
  have K1 : Kept w w1 := K0.onto Wy.but (Nat.le_refl _)
  have o1 := Wy.row
  have hC := Wy.cur
  have hnm := Wy.nam
  have es : (w.alloc (.cells #[.slice ao len cap, .int .i64 0, .int .u64 0] 59)).heap.size = w.heap.size + 1 := by simp
  rw [es] at o1
  clear Wy hcu K0 es
  obtain ⟨ao1, cap1, hfm⟩ := o1.form
  subst hfm
  dsimp only
  repeat (first | go_values | go_skip | go_guarded | go_step | go_upon)
  go_at_call 44
  refine (pick_any _ w.heap.size _ _ hC (by omega)).mono ?_
  rintro e w2 ⟨r, rfl, hr, hC, hg⟩
  have hr2 : r ≤ 50 := by omega
  have o2 := (o1.but hg (by omega)).low
  have K2 : Kept w w2 := K1.onto hg (Nat.le_refl _)
  dsimp only
  repeat (first | go_values | go_skip | go_guarded | go_step | go_upon)
  go_ret2
  exact ⟨_, l, r - 1, rfl, o2.mono (by omega) (Nat.le_refl _), hl41, hnm, by omega, by omega, K2⟩

theorem absA (x : Int) (w : World) (h0 : -1000 ≤ x) (h1 : x ≤ 1000) : Calls Try.prog 45 #[.int .i64 x] w fun e w' => (∃ y : Int, e = .returned (.int .i64 y) ∧ 0 ≤ y ∧ y ≤ 1000) ∧ w' = w := by
  go_enter Try.func45, Try.ntmps45
  go_wp2
  all_goals go_ret
  all_goals exact ⟨⟨_, rfl, by omega, by omega⟩, rfl⟩

set_option maxRecDepth 100000 in
set_option maxHeartbeats 4000000 in
theorem drawHang (ao : Option Addr) (len cap : Nat) (w : World) (h : Code w ao len) (hl : len ≤ 9223372036854775807) :
    Calls Try.prog 16 #[.slice ao len cap] w fun e w' => ∃ v l a u, e = .returned (.tuple #[v, .int .i64 a, .int .i64 u]) ∧ NodeO w' w.heap.size w'.heap.size v l ∧ l.length ≤ 41 ∧ (∀ p ∈ l, p.1.size ≤ 4) ∧ Kept w w' := by
  go_enter Try.func16, Try.ntmps16
  repeat (first | go_values | go_skip | go_guarded | go_step | go_upon)
  go_at_call 43
  refine (drawL ao len cap _ h hl).mono ?_
  rintro e w1 ⟨v, l, a, rfl, o1, hl41, hnm, ha0, ha1, K1⟩
  obtain ⟨ao1, cap1, hfm⟩ := o1.form
  subst hfm
  dsimp only
  repeat (first | go_values | go_skip | go_guarded | go_step | go_upon)
  go_at_call 45
  have hcu := (h.kept K1).cur40 (cap := cap) (t := 59) hl
  refine (absA a _ (by omega) (by omega)).mono ?_
  rintro e w2 ⟨⟨y, rfl, hy0, hy1⟩, hw2⟩
  rw [← hw2] at hcu
  have K2 : Kept w1 w2 := by rw [hw2]; exact (But.refl _ _ _).alloc _
  clear hw2
  have o2 := o1.kept K2
  have hb1 := K1.size
  dsimp only
  repeat (first | go_values | go_skip | go_guarded | go_step | go_upon)
  go_at_call 44
  refine (pick_any _ w1.heap.size _ _ hcu (by omega)).mono ?_
  rintro e w3 ⟨r, rfl, hr, hC, hg⟩
  have o3 := (o2.but hg (by omega)).low
  have K3 : Kept w w3 := (K1.trans K2).onto hg (by omega)
  have hr2 : r ≤ 2000 := by omega
  dsimp only
  repeat (first | go_values | go_skip | go_guarded | go_step | go_upon)
  refine bodyPost_ret (v := .tuple #[.slice ao1 l.length cap1, .int .i64 a, .int .i64 (r - 1)]) (by simp [results, Try.results16, go_sem]) rfl ?_
  exact ⟨_, l, a, r - 1, rfl, o3, hl41, hnm, K3⟩
end Go.Proofs.Ytcljppnakmeldaa
