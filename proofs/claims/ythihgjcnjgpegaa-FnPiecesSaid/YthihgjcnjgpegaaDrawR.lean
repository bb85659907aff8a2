/-
  What the drawing of a clock and a time answers: some clock in memory of its own, and some time; all that was there is as it was.
-/
import Derived.Test.YthihgjcnjgpegaaDraw
namespace Go.Proofs.Ythihgjcnjgpegaa
open Go.ChangeShapes Go.WideShapes Go.ChangeAt Go.RowKit

/-- The answer is stored in the block R. -/
theorem draw_fin {w W : World} {R : Nat} {c : ClockD} {ao : Option Addr} {cap : Nat} (o : ClockO W (R + 1 + 1) W.heap.size (.agg #[.int .i64 c.1, .slice ao c.2.length cap]) c) (K : Kept w W) (hR : w.heap.size ≤ R) :
    ClockO ((W.setCell ⟨R, 0, none⟩ (.int .i64 c.1)).setCell ⟨R, 1, none⟩ (.slice ao c.2.length cap)) w.heap.size ((W.setCell ⟨R, 0, none⟩ (.int .i64 c.1)).setCell ⟨R, 1, none⟩ (.slice ao c.2.length cap)).heap.size (.agg #[.int .i64 c.1, .slice ao c.2.length cap]) c ∧ Kept w ((W.setCell ⟨R, 0, none⟩ (.int .i64 c.1)).setCell ⟨R, 1, none⟩ (.slice ao c.2.length cap)) := by
  have k : But R (R + 1) W ((W.setCell ⟨R, 0, none⟩ (.int .i64 c.1)).setCell ⟨R, 1, none⟩ (.slice ao c.2.length cap)) :=
    ((But.refl _ _ _).setCell (p := ⟨R, 0, none⟩) (Nat.le_refl R) (Nat.lt_succ_self R) _).setCell (p := ⟨R, 1, none⟩) (Nat.le_refl R) (Nat.lt_succ_self R) _
  exact ⟨⟨_, rfl, (RowO.mono (RowO.but o.row k (by omega)) (by omega) (Nat.le_refl _)).low⟩, K.onto k hR⟩
theorem Code.kept {w w' : World} {ao : Option Addr} {len : Nat} (h : Code w ao len) (k : Kept w w') : Code w' ao len := fun i hi => by
  obtain ⟨ab, off, c, e, hc, hb⟩ := h i hi
  exact ⟨ab, off, c, e, k.cell hc, hb⟩

set_option maxRecDepth 100000 in
set_option maxHeartbeats 4000000 in
theorem drawRun (ao : Option Addr) (len cap : Nat) (w : World) (h : Code w ao len) (hl : len ≤ 1048576) :
    Calls Try.prog 10 #[.slice ao len cap] w fun e w' => ∃ v c u, e = .returned (.tuple #[v, .int .i64 u]) ∧ ClockO w' w.heap.size w'.heap.size v c ∧ Kept w w' := by
  go_enter Try.func10, Try.ntmps10
  repeat (first | go_values | go_skip | go_guarded | go_step | go_upon)
  go_at_call 34
  have hcu := (h.kept ((But.refl _ _ w).alloc (.cells #[.int .i64 0, .slice none 0 0] 25))).cur (cap := cap) (t := 61) hl
  have L0 := (Loc.new w [.int .i64 0, .slice none 0 0] 25).alloc (.cells #[.slice ao len cap, .int .i64 0, .int .u64 0] 61)
  have K0 : Kept w ((w.alloc (.cells #[.int .i64 0, .slice none 0 0] 25)).alloc (.cells #[.slice ao len cap, .int .i64 0, .int .u64 0] 61)) := ((But.refl _ _ w).alloc _).alloc _
  have es : (w.alloc (.cells #[.int .i64 0, .slice none 0 0] 25)).heap.size = w.heap.size + 1 := by simp
  rw [es] at hcu
  have es2 : ((w.alloc (.cells #[.int .i64 0, .slice none 0 0] 25)).alloc (.cells #[.slice ao len cap, .int .i64 0, .int .u64 0] 61)).heap.size = w.heap.size + 1 + 1 := by simp
  refine (clock_ok _ (w.heap.size + 1) 0 hcu (by omega)).mono ?_
  rintro e w1 ⟨v, c, rfl, o1, hC, hg⟩
  rw [es2] at o1
  have hs1 := hg.size
  rw [es2] at hs1
  have L0 := L0.but hg (by omega)
  have K1 : Kept w w1 := K0.onto hg (by omega)
  clear es es2 hg K0 hcu
  obtain ⟨ao1, cap1, hfm⟩ := o1.form
  subst hfm
  dsimp only
  repeat (first | go_values | go_skip | go_guarded | go_step | go_upon)
  have LX := Loc.new w1 [.int .i64 c.1, .slice ao1 c.2.length cap1] 25
  have hC := hC.alloc (.cells #[.int .i64 c.1, .slice ao1 c.2.length cap1] 25)
  have L0 := L0.alloc (.cells #[.int .i64 c.1, .slice ao1 c.2.length cap1] 25)
  have o1 := o1.kept ((But.refl _ _ w1).alloc (.cells #[.int .i64 c.1, .slice ao1 c.2.length cap1] 25))
  have K1 := K1.alloc (.cells #[.int .i64 c.1, .slice ao1 c.2.length cap1] 25)
  generalize w1.alloc (.cells #[.int .i64 c.1, .slice ao1 c.2.length cap1] 25) = u at *
  have c0 := LX.cell 0 rfl
  have c1 := LX.cell 1 rfl
  have r0 := L0.cell 0 rfl
  have r1 := L0.cell 1 rfl
  have rf0 := L0.frozen 0
  have rf1 := L0.frozen 1
  go_region_held3 (fun W' => W'.cell? ⟨w1.heap.size, 0, none⟩ = some (.int .i64 c.1)) (simp [go_sem, *])
    (first
      | (go_at_call 35
         refine (pick_ok _ (w.heap.size + 1) 1000 80 (by first | exact hC | exact hC.kept ((But.refl _ _ _).drew)) (by omega) (by omega)).mono ?_
         rintro e w2 ⟨x2, rfl, -, hC, hg⟩
         have hg := But.trans ((But.refl (w.heap.size + 1) (w.heap.size + 1 + 1) u).drew) hg
         have LX := LX.but hg (by omega)
         have c0 := LX.cell 0 rfl))
  have L0 := L0.but hg (by omega)
  have o1 := (ClockO.but o1 hg (by omega))
  have K1 : Kept w w2 := K1.onto hg (by omega)
  have hX : w1.heap.size < w2.heap.size := LX.lt
  clear hg
  repeat (first | go_values | go_skip | go_guarded | go_step | go_upon)
  go_at_call 36
  refine (one_ok _ (w.heap.size + 1) 1002 20 (hC.le (by omega)) (by omega) (by omega)).mono ?_
  rintro e w3 ⟨y3, rfl, hC, hg⟩
  have hsz := hg.size
  have LX := LX.but hg (by omega)
  have L0 := L0.but hg (by omega)
  have o1 := (ClockO.but o1 hg (by omega))
  have K1 : Kept w w3 := K1.onto hg (by omega)
  have hX : w1.heap.size < w3.heap.size := LX.lt
  clear hg hsz
  clear c0 c1 r0 r1 rf0 rf1
  have c0 := LX.cell 0 rfl
  have c1 := LX.cell 1 rfl
  have r0 := L0.cell 0 rfl
  have r1 := L0.cell 1 rfl
  have rf0 := L0.frozen 0
  have rf1 := L0.frozen 1
  cases y3
  · dsimp only
    repeat (first | go_values | go_skip | go_guarded | go_step | go_upon)
    refine bodyPost_ret (v := .tuple #[.agg #[.int .i64 c.1, .slice ao1 c.2.length cap1], .int .i64 (IntKind.i64.wrap (c.1 + x2))]) (by simp [results, Try.results10, go_sem, r0, r1]) rfl ?_
    exact ⟨_, c, _, rfl, draw_fin o1.low K1 (Nat.le_refl _)⟩
  · dsimp only
    repeat (first | go_values | go_skip | go_guarded | go_step | go_upon)
    go_at_call 37
    refine (among_ok _ (w.heap.size + 1) _ 1004 [wrap64 (c.1 - 1), 100000, 100001] (CurOk.alloc (hC.le (by omega)) _) (by omega) (by omega) (Listed.of (Loc.new _ _ _)) (by simp) (by simp) 3 rfl).mono ?_
    rintro e w4 ⟨z, rfl, -, hC, hg⟩
    have LX := LX.alloc (.cells #[.int .i64 (wrap64 (c.1 - 1)), .int .i64 100000, .int .i64 100001] 3)
    have L0 := L0.alloc (.cells #[.int .i64 (wrap64 (c.1 - 1)), .int .i64 100000, .int .i64 100001] 3)
    have o1 := o1.kept ((But.refl _ _ w3).alloc (.cells #[.int .i64 (wrap64 (c.1 - 1)), .int .i64 100000, .int .i64 100001] 3))
    have K1 := K1.alloc (.cells #[.int .i64 (wrap64 (c.1 - 1)), .int .i64 100000, .int .i64 100001] 3)
    have hsz := hg.size
    have LX := LX.but hg (by omega)
    have L0 := L0.but hg (by omega)
    have o1 := (ClockO.but o1 hg (by omega))
    have K1 : Kept w w4 := K1.onto hg (by omega)
    have hX : w1.heap.size < w4.heap.size := LX.lt
    clear hg hsz
    clear c0 c1 r0 r1 rf0 rf1
    have c0 := LX.cell 0 rfl
    have c1 := LX.cell 1 rfl
    have r0 := L0.cell 0 rfl
    have r1 := L0.cell 1 rfl
    have rf0 := L0.frozen 0
    have rf1 := L0.frozen 1
    dsimp only
    repeat (first | go_values | go_skip | go_guarded | go_step | go_upon)
    refine bodyPost_ret (v := .tuple #[.agg #[.int .i64 c.1, .slice ao1 c.2.length cap1], .int .i64 z]) (by simp [results, Try.results10, go_sem, r0, r1]) rfl ?_
    exact ⟨_, c, _, rfl, draw_fin o1.low K1 (Nat.le_refl _)⟩
end Go.Proofs.Ythihgjcnjgpegaa
