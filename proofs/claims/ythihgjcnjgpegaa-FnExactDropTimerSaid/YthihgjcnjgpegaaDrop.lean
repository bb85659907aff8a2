/-
  What the program's DropTimer answers.
-/
import Derived.Test.YthihgjcnjgpegaaGood
import Derived.Test.YthihgjcnjgpegaaPlace
import Derived.Test.YthihgjcnjgpegaaDel
namespace Go.Proofs.Ythihgjcnjgpegaa
open Go.ChangeShapes Go.WideShapes Go.ChangeAt Go.RowKit

set_option maxRecDepth 100000
set_option maxHeartbeats 4000000 in
theorem implDrop (c : ClockD) (id : Int) (v : Value) (w : World) (hv : ClockAt w v c) :
    Calls Try.prog 26 #[v, .int .i64 id] w fun e w' => ∃ v', e = .returned (.tuple #[v', .bool (dropA c id).2]) ∧ ClockO w' w.heap.size w'.heap.size v' (dropA c id).1 ∧ Kept w w' := by
  obtain ⟨ao, cap, hfm⟩ := hv.form
  subst hfm
  have hr := hv.row
  obtain ⟨now, l⟩ := c
  dsimp only at *
  cases hg : goodC (now, l) with
  | false =>
    rw [show dropA (now, l) id = ((0, []), false) by simp [dropA, hg]]
    go_enter Try.func26, Try.ntmps26
    repeat (first | go_values | go_skip | go_guarded | go_step | go_upon)
    go_at_call 18
    refine (implGood (now, l) _ _ (hv.kept (((But.refl _ _ _).alloc _).alloc _))).mono ?_
    rintro e w1 ⟨rfl, k1⟩
    rw [hg]
    have K1 : Kept w w1 := (((But.refl _ _ _).alloc _).alloc _).trans k1
    have L0 := (Loc.alloc (Loc.new w [.int .i64 now, .slice ao l.length cap] 25) (.cells #[.int .i64 0, .slice none 0 0] 25)).kept k1
    have L1 := (Loc.new (w.alloc (.cells #[.int .i64 now, .slice ao l.length cap] 25)) [.int .i64 0, .slice none 0 0] 25).kept k1
    simp only [World.size_alloc] at L1
    have hw1 := L1.lt
    have hw0 := L0.lt
    have s0 := L0.cell 0 rfl
    have s1 := L0.cell 1 rfl
    have r0 := L1.cell 0 rfl
    have r1 := L1.cell 1 rfl
    have rf0 := L1.frozen 0
    have rf1 := L1.frozen 1
    clear k1
    dsimp only
    repeat (first | go_values | go_skip | go_guarded | go_step | go_upon)
    have B : But (w.heap.size + 1) (w.heap.size + 2) w1 ((w1.setCell ⟨w.heap.size + 1, 0, none⟩ (.int .i64 0)).setCell ⟨w.heap.size + 1, 1, none⟩ (.slice none 0 0)) := ((But.refl _ _ _).setCell (by simp) (by simp) _).setCell (by simp) (by simp) _
    refine bodyPost_ret (v := .tuple #[.agg #[.int .i64 0, .slice none 0 0], .bool false]) (by simp [results, Try.results26, go_sem, r0, r1]) rfl ?_
    exact ⟨_, rfl, zero_clock _ _ _, K1.onto B (by omega)⟩
  | true =>
    have hri : Rising l := good_rising hg
    have hlen : l.length ≤ 20 := good_len hg
    go_enter Try.func26, Try.ntmps26
    repeat (first | go_values | go_skip | go_guarded | go_step | go_upon)
    go_at_call 18
    refine (implGood (now, l) _ _ (hv.kept (((But.refl _ _ _).alloc _).alloc _))).mono ?_
    rintro e w1 ⟨rfl, k1⟩
    rw [hg]
    have K1 : Kept w w1 := (((But.refl _ _ _).alloc _).alloc _).trans k1
    have L0 := (Loc.alloc (Loc.new w [.int .i64 now, .slice ao l.length cap] 25) (.cells #[.int .i64 0, .slice none 0 0] 25)).kept k1
    have L1 := (Loc.new (w.alloc (.cells #[.int .i64 now, .slice ao l.length cap] 25)) [.int .i64 0, .slice none 0 0] 25).kept k1
    simp only [World.size_alloc] at L1
    have hw1 := L1.lt
    have hw0 := L0.lt
    have s0 := L0.cell 0 rfl
    have s1 := L0.cell 1 rfl
    have r0 := L1.cell 0 rfl
    have r1 := L1.cell 1 rfl
    have rf0 := L1.frozen 0
    have rf1 := L1.frozen 1
    clear k1
    dsimp only
    repeat (first | go_values | go_skip | go_guarded | go_step | go_upon)
    go_at_call 53
    refine (findTimer l id _ _ (hr.kept K1) hri (by omega)).mono ?_
    rintro e w2 ⟨i, rfl, hpos, k2⟩
    have K2 := K1.trans k2
    have L0 := L0.kept k2
    have L1 := L1.kept k2
    have hw1 := L1.lt
    have hw0 := L0.lt
    have s0 := L0.cell 0 rfl
    have s1 := L0.cell 1 rfl
    have r0 := L1.cell 0 rfl
    have r1 := L1.cell 1 rfl
    have rf0 := L1.frozen 0
    have rf1 := L1.frozen 1
    clear k2 K1
    cases hh : hasId l id i with
    | false =>
      have HA : Hid (dropA (now, l) id = ((0, []), false)) := by show dropA (now, l) id = _; simp [dropA, has_none hpos hri hh]
      dsimp only
      repeat (first | go_values | go_skip | go_guarded | go_step | go_upon)
      have B : But (w.heap.size + 1) (w.heap.size + 2) w2 ((w2.setCell ⟨w.heap.size + 1, 0, none⟩ (.int .i64 0)).setCell ⟨w.heap.size + 1, 1, none⟩ (.slice none 0 0)) := ((But.refl _ _ _).setCell (by simp) (by simp) _).setCell (by simp) (by simp) _
      refine bodyPost_ret (v := .tuple #[.agg #[.int .i64 0, .slice none 0 0], .bool false]) (by simp [results, Try.results26, go_sem, r0, r1]) rfl ?_
      rw [HA.out]
      exact ⟨_, rfl, zero_clock _ _ _, K2.onto B (by omega)⟩
    | true =>
      obtain ⟨hsp, hany, hil⟩ := has_split hpos hri hh
      have HA : Hid (dropA (now, l) id = ((now, dropM l id), true)) := by show dropA (now, l) id = _; simp [dropA, hg, hany]
      have HSP : Hid _ := hsp
      clear hsp hany hpos hh
      dsimp only
      repeat (first | go_values | go_skip | go_guarded | go_step | go_upon)
      go_at_call 52
      refine (copyClock (now, l) _ _ (hv.kept K2) (by dsimp only; omega)).mono ?_
      rintro e w3 ⟨v3, rfl, o3, k3⟩
      obtain ⟨ao3, cap3, hfm⟩ := o3.form
      subst hfm
      dsimp only
      repeat (first | go_values | go_skip | go_guarded | go_step | go_upon)
      have hT : TimerO w3 w2.heap.size w3.heap.size (.slice ao3 l.length cap3) l := o3.row
      obtain ⟨g, cap4, hfs⟩ := own_some hT.1 (by omega)
      cases hfs
      have hgb := hT.2 g rfl
      have hga := (own_lt hT.1 (g := g) rfl).1
      have L0 := Loc.alloc (L0.kept k3) (.cells #[.int .i64 now, .slice (some ⟨g, 0, none⟩) l.length cap3] 25)
      have L1 := Loc.alloc (L1.kept k3) (.cells #[.int .i64 now, .slice (some ⟨g, 0, none⟩) l.length cap3] 25)
      have L3 := Loc.new w3 [.int .i64 now, .slice (some ⟨g, 0, none⟩) l.length cap3] 25
      have K3 := (K2.trans k3).alloc (.cells #[.int .i64 now, .slice (some ⟨g, 0, none⟩) l.length cap3] 25)
      have s3 := k3.size
      go_at_call 57
      refine (deleteT w2.heap.size g l.length cap3 i (l.flatMap timerC) _ (own_ks hT ((But.refl _ _ w3).alloc _)) (one_timers l) hil (by omega)).mono ?_
      rintro e w4 ⟨rfl, hown4, b4⟩
      have L1 := L1.but b4 (by omega)
      have L3 := L3.but b4 (by omega)
      have K4 := K3.onto b4 (by omega)
      have s4 := b4.size
      simp only [World.size_alloc] at s4
      have hl4 : (dropM l id).length = l.length - 1 := by rw [HSP.out, List.length_append, List.length_take, List.length_drop]; omega
      have hT4 : TimerO w4 w2.heap.size w3.heap.size (.slice (some ⟨g, 0, none⟩) (l.length - 1) cap3) (dropM l id) := by
        unfold TimerO
        rw [hl4, HSP.out, List.flatMap_append, flat_take 4 timerC timerC_len, flat_drop 4 timerC timerC_len]
        exact ⟨hown4, fun g' hg' => by cases hg'; exact hgb⟩
      have HT4 : Hid (TimerO _ _ _ _ _) := hT4
      clear hT4 hown4 b4 hT o3 k3 hl4
      have r0 := L1.cell 0 rfl
      have r1 := L1.cell 1 rfl
      have rf0 := L1.frozen 0
      have rf1 := L1.frozen 1
      have t0 := L3.cell 0 rfl
      have t1 := L3.cell 1 rfl
      have tf1 := L3.frozen 1
      have hw3 := L3.lt
      dsimp only
      repeat (first | go_values | go_skip | go_guarded | go_step | go_upon)
      have B : But (w.heap.size + 1) (w.heap.size + 2) (w4.setCell ⟨w3.heap.size, 1, none⟩ (.slice (some ⟨g, 0, none⟩) (l.length - 1) cap3)) (((w4.setCell ⟨w3.heap.size, 1, none⟩ (.slice (some ⟨g, 0, none⟩) (l.length - 1) cap3)).setCell ⟨w.heap.size + 1, 0, none⟩ (.int .i64 now)).setCell ⟨w.heap.size + 1, 1, none⟩ (.slice (some ⟨g, 0, none⟩) (l.length - 1) cap3)) := ((But.refl _ _ _).setCell (by simp) (by simp) _).setCell (by simp) (by simp) _
      have B2 : But w3.heap.size (w3.heap.size + 1) w4 (w4.setCell ⟨w3.heap.size, 1, none⟩ (.slice (some ⟨g, 0, none⟩) (l.length - 1) cap3)) := (But.refl _ _ _).setCell (by simp) (by simp) _
      refine bodyPost_ret (v := .tuple #[.agg #[.int .i64 now, .slice (some ⟨g, 0, none⟩) (l.length - 1) cap3], .bool true]) (by simp [results, Try.results26, go_sem, r0, r1]) rfl ?_
      rw [HA.out]
      refine ⟨_, rfl, ⟨_, rfl, ?_⟩, (K4.onto B2 (by omega)).onto B (by omega)⟩
      have := (TimerO.but HT4.out B2 (by omega)).but B (by omega)
      exact (this.mono (lo' := w.heap.size) (by omega) (Nat.le_refl _)).low

end Go.Proofs.Ythihgjcnjgpegaa
