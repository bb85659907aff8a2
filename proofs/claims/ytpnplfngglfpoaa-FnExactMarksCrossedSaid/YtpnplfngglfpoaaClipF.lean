/-
  Clips weighed, copied, and held against one another.
-/
import Derived.Test.YtpnplfngglfpoaaClip
import Derived.Test.YtpnplfngglfpoaaQuiet
namespace Go.Proofs.Ytpnplfngglfpoaa
open Go.ChangeShapes Go.WideShapes Go.ChangeAt Go.RowKit

set_option maxRecDepth 100000
set_option linter.unusedVariables false
theorem szClip (c : ClipD) (v : Value) (left : Int) (w : World) (hv : ClipAt w v c) (hl : 0 ≤ left) (hm : left ≤ 1048576) (hf : ClipFit c) :
    Calls Try.prog 16 #[v, .int .i64 left] w fun e w' => e = .returned (.int .i64 (leftOf left (clipCost c))) ∧ Kept w w' := by
  obtain ⟨a1, p1, a2, p2, hfm⟩ := hv.form
  subst hfm
  obtain ⟨hr, hr2⟩ := hv.row
  obtain ⟨⟨hf1, hf2⟩, hf3, hf4⟩ := hf
  by_cases hc : left < (trsCost c.2.1 : Int)
  · go_enter Try.func16, Try.ntmps16
    repeat (first | go_values | go_skip | go_guarded | go_step | go_upon)
    go_at_call 60
    refine (szTrs c.2.1 _ _ _ (hr.kept ((But.refl _ _ _).alloc _)) hl hm hf1 hf2).mono ?_
    rintro e u1 ⟨rfl, k1⟩
    rw [leftOf_no (by omega)]
    dsimp only
    repeat (first | go_values | go_skip | go_guarded | go_step | go_upon)
    go_ret
    exact ⟨ret_int (leftOf_no (by unfold clipCost; omega)).symm, ((But.refl _ _ _).alloc _).trans k1⟩
  · obtain ⟨M, hM⟩ : ∃ M : Int, left - (trsCost c.2.1 : Int) = M := ⟨_, rfl⟩
    have HM : Hid (left - (trsCost c.2.1 : Int) = M) := hM
    have hM0 : 0 ≤ M := by omega
    have hM1 : M ≤ 1048576 := by omega
    have hc2 : decide (M < 0) = false := by simp; omega
    have L0 : Loc (w.alloc (.cells #[.int .i64 c.1, .slice a1 c.2.1.length p1, .slice a2 c.2.2.length p2] 38)) w.heap.size [.int .i64 c.1, .slice a1 c.2.1.length p1, .slice a2 c.2.2.length p2] := Loc.new w _ _
    clear hM
    by_cases hd : M < (markCost c.2.2 : Int)
    · go_enter Try.func16, Try.ntmps16
      repeat (first | go_values | go_skip | go_guarded | go_step | go_upon)
      go_at_call 60
      refine (szTrs c.2.1 _ _ _ (hr.kept ((But.refl _ _ _).alloc _)) hl hm hf1 hf2).mono ?_
      rintro e u1 ⟨rfl, k1⟩
      rw [leftOf_yes (by have := HM.out; omega), HM.out]
      have f2 := (L0.kept k1).cell 2 rfl
      have K1 : Kept w u1 := ((But.refl _ _ _).alloc _).trans k1
      dsimp only
      repeat (first | go_values | go_skip | go_guarded | go_step | go_upon)
      go_at_call 61
      refine (szMarkS c.2.2 _ _ _ (hr2.kept K1) hM0 hM1 hf3 hf4).mono ?_
      rintro e u2 ⟨rfl, k2⟩
      rw [leftOf_no hd]
      dsimp only
      repeat (first | go_values | go_skip | go_guarded | go_step | go_upon)
      go_ret
      exact ⟨ret_int (leftOf_no (by have := HM.out; unfold clipCost; omega)).symm, K1.trans k2⟩
    · have hc3 : decide (M - (markCost c.2.2 : Int) < 0) = false := by simp; omega
      go_enter Try.func16, Try.ntmps16
      repeat (first | go_values | go_skip | go_guarded | go_step | go_upon)
      go_at_call 60
      refine (szTrs c.2.1 _ _ _ (hr.kept ((But.refl _ _ _).alloc _)) hl hm hf1 hf2).mono ?_
      rintro e u1 ⟨rfl, k1⟩
      rw [leftOf_yes (by have := HM.out; omega), HM.out]
      have f2 := (L0.kept k1).cell 2 rfl
      have K1 : Kept w u1 := ((But.refl _ _ _).alloc _).trans k1
      dsimp only
      repeat (first | go_values | go_skip | go_guarded | go_step | go_upon)
      go_at_call 61
      refine (szMarkS c.2.2 _ _ _ (hr2.kept K1) hM0 hM1 hf3 hf4).mono ?_
      rintro e u2 ⟨rfl, k2⟩
      rw [leftOf_yes (by omega)]
      dsimp only
      repeat (first | go_values | go_skip | go_guarded | go_step | go_upon)
      go_ret
      exact ⟨ret_int (by have := HM.out; rw [leftOf_yes (by unfold clipCost; omega)]; unfold clipCost; omega), K1.trans k2⟩
set_option maxHeartbeats 2000000 in
theorem toClip (c : ClipD) (v : Value) (w : World) (hv : ClipAt w v c) (hl : clipCost c ≤ 1048576) :
    Calls Try.prog 18 #[v] w fun e w' => ∃ v', e = .returned v' ∧ ClipO w' w.heap.size w'.heap.size v' c ∧ Kept w w' := by
  obtain ⟨a1, p1, a2, p2, hfm⟩ := hv.form
  subst hfm
  obtain ⟨hr, hr2⟩ := hv.row
  have hl1 : trsCost c.2.1 ≤ 1048576 := by unfold clipCost at hl; omega
  have hl2 : c.2.2.length ≤ 1048576 := by unfold clipCost markCost at hl; omega
  obtain ⟨x, ts, ms⟩ := c
  dsimp only at *
  clear hv
  go_enter Try.func18, Try.ntmps18
  repeat (first | go_values | go_skip | go_guarded | go_step | go_upon)
  go_at_call 63
  refine (toTrs ts _ _ (hr.kept ((((But.refl _ _ _).alloc _).alloc _).alloc _)) hl1).mono ?_
  rintro e w1 ⟨v1, rfl, ho, hk⟩
  obtain ⟨a3, p3, hf⟩ := ho.form
  subst hf
  have K : Kept w w1 := ((((But.refl _ _ _).alloc _).alloc _).alloc _).trans hk
  have L0 := ((((Loc.new w [.int .i64 x, .slice a1 ts.length p1, .slice a2 ms.length p2] 38).alloc _).alloc _).kept hk)
  have L1 := (((Loc.new _ [.int .i64 0, .slice none 0 0, .slice none 0 0] 44).alloc _).kept hk)
  have L2 := (Loc.new _ [.int .i64 x, .slice none 0 0, .slice none 0 0] 44).kept hk
  simp only [World.size_alloc] at L0 L1 L2 ho
  have f0 := L0.cell 2 rfl
  have f1 := L2.cell 1 rfl
  have f2 := L2.frozen 1
  have hksz := hk.size
  simp at hksz
  have HO : Hid (TrsO w1 (w.heap.size + 1 + 1 + 1) w1.heap.size (.slice a3 ts.length p3) ts) := ho
  clear hk ho
  dsimp only
  repeat (first | go_values | go_skip | go_guarded | go_step | go_upon)
  go_at_call 64
  refine (toMarkS ms _ _ (hr2.kept (But.setNew K (by simp; omega) _)) hl2).mono ?_
  rintro e w2 ⟨v2, rfl, ho2, hk2⟩
  obtain ⟨a4, p4, hf⟩ := ho2.form
  subst hf
  have K2 : Kept w w2 := (But.setNew K (by simp; omega) _).trans hk2
  have M1 := (L1.other (b' := w.heap.size + 1 + 1) (by omega) _).kept hk2
  have M2 := (L2.set 1 _).kept hk2
  have hB1 : But (w.heap.size + 1 + 1) (w.heap.size + 1 + 1 + 1) w1 w2 := But.transK ((But.refl _ _ _).setCell (by simp) (by simp) _) hk2
  have HO1 := HO.out.but hB1 (by omega)
  simp only [World.size_setCell] at ho2
  have hs2 := hk2.size
  simp only [World.size_setCell] at hs2
  have c0 := M1.cell 0 rfl
  have c1 := M1.cell 1 rfl
  have c2 := M1.cell 2 rfl
  have d0 := M1.frozen 0
  have d1 := M1.frozen 1
  have d2 := M1.frozen 2
  have e0 := M2.cell 0 rfl
  have e1 := M2.cell 1 rfl
  have e2 := M2.cell 2 rfl
  have e3 := M2.frozen 2
  clear f0 f1 f2 K hk2 hB1 HO L0 L1 L2 M1 M2
  have HO1 : Hid (TrsO w2 (w.heap.size + 1 + 1 + 1) w1.heap.size (.slice a3 ts.length p3) ts) := HO1
  have HO2 : Hid (MarkO w2 w1.heap.size w2.heap.size (.slice a4 ms.length p4) ms) := ho2
  have HK2 : Hid (Kept w w2) := K2
  clear ho2 K2
  dsimp only
  repeat (first | go_values | go_skip | go_guarded | go_step | go_upon)
  have B : But w.heap.size (w.heap.size + 3) w2 ((((w2.setCell ⟨w.heap.size + 1 + 1, 2, none⟩ (.slice a4 ms.length p4)).setCell ⟨w.heap.size + 1, 0, none⟩ (.int .i64 x)).setCell ⟨w.heap.size + 1, 1, none⟩ (.slice a3 ts.length p3)).setCell ⟨w.heap.size + 1, 2, none⟩ (.slice a4 ms.length p4)) :=
    ((((But.refl _ _ _).setCell (by simp; try omega) (by simp; try omega) _).setCell (by simp; try omega) (by simp; try omega) _).setCell (by simp; try omega) (by simp; try omega) _).setCell (by simp; try omega) (by simp; try omega) _
  refine bodyPost_ret (v := .agg #[.int .i64 x, .slice a3 ts.length p3, .slice a4 ms.length p4]) (by simp [results, Try.results18, go_sem, *]) rfl ?_
  have hsB := B.size
  exact ⟨_, rfl, ⟨_, _, w1.heap.size, rfl, by omega, (HO1.out.but B (by omega)).mono (by omega) (Nat.le_refl _), (HO2.out.but B (by omega)).mono (Nat.le_refl _) hsB⟩, HK2.out.onto B (Nat.le_refl _)⟩
set_option maxHeartbeats 2000000 in
theorem eqClip (c : ClipD) (v v' : Value) (w : World) (hv : ClipAt w v c) (hv' : ClipAt w v' c) (hl : clipCost c ≤ 1048576) :
    Calls Try.prog 20 #[v, v'] w fun e w' => e = .returned (.bool true) ∧ Kept w w' := by
  obtain ⟨a1, p1, a2, p2, hfm⟩ := hv.form
  subst hfm
  obtain ⟨a3, p3, a4, p4, hfm⟩ := hv'.form
  subst hfm
  obtain ⟨hr, hr2⟩ := hv.row
  obtain ⟨hr', hr2'⟩ := hv'.row
  have hl1 : trsCost c.2.1 ≤ 9000000000000000000 := by unfold clipCost at hl; omega
  have hl2 : c.2.2.length ≤ 9000000000000000000 := by unfold clipCost markCost at hl; omega
  obtain ⟨x, ts, ms⟩ := c
  dsimp only at *
  clear hv hv'
  have KA : Kept w ((w.alloc (.cells #[.int .i64 x, .slice a1 ts.length p1, .slice a2 ms.length p2] 44)).alloc (.cells #[.int .i64 x, .slice a3 ts.length p3, .slice a4 ms.length p4] 44)) := ((But.refl _ _ _).alloc _).alloc _
  have L0 := (Loc.new w [.int .i64 x, .slice a1 ts.length p1, .slice a2 ms.length p2] 44).alloc (.cells #[.int .i64 x, .slice a3 ts.length p3, .slice a4 ms.length p4] 44)
  have L1 := (Loc.new (w.alloc (.cells #[.int .i64 x, .slice a1 ts.length p1, .slice a2 ms.length p2] 44)) [.int .i64 x, .slice a3 ts.length p3, .slice a4 ms.length p4] 44)
  simp only [World.size_alloc] at L1
  go_enter Try.func20, Try.ntmps20
  repeat (first | go_values | go_skip | go_guarded | go_step | go_upon)
  go_at_call 67
  refine (eqTrs ts _ _ _ (hr.kept KA) (hr'.kept KA) hl1).mono ?_
  rintro e u1 ⟨rfl, k1⟩
  have f0 := (L0.kept k1).cell 2 rfl
  have f1 := (L1.kept k1).cell 2 rfl
  have K1 := KA.trans k1
  dsimp only
  repeat (first | go_values | go_skip | go_guarded | go_step | go_upon)
  go_at_call 68
  refine (eqMarkS ms _ _ _ (hr2.kept K1) (hr2'.kept K1) hl2).mono ?_
  rintro e u2 ⟨rfl, k2⟩
  dsimp only
  repeat (first | go_values | go_skip | go_guarded | go_step | go_upon)
  go_ret
  exact ⟨rfl, K1.trans k2⟩

end Go.Proofs.Ytpnplfngglfpoaa
