/-
  Rules weighed, copied, held against one another and marked.
-/
import Derived.Test.YtopakblckajdmaaRules
namespace Go.Proofs.Ytopakblckajdmaa
open Go.ChangeShapes Go.WideShapes Go.ChangeAt Go.RowKit

set_option maxRecDepth 100000
set_option maxHeartbeats 4000000 in
theorem szRules (c : RulesD) (v : Value) (left : Int) (w : World) (hv : RulesAt w v c) (hl : 0 ≤ left) (hm : left ≤ 1048576) (hf : RulesFit c) :
    Calls Try.prog 16 #[v, .int .i64 left] w fun e w' => e = .returned (.int .i64 (leftOf left (rulesCost c))) ∧ Kept w w' := by
  obtain ⟨a1, c1, a2, c2, hfm⟩ := hv.form
  subst hfm
  obtain ⟨h1, h2⟩ := hv.parts
  obtain ⟨f1, f2, f3, f4⟩ := hf
  by_cases hc : left < (lLCost c.2.1 : Int)
  · go_enter Try.func16, Try.ntmps16
    repeat (first | go_values | go_skip | go_guarded | go_step | go_upon)
    go_at_call 51
    refine (szLL c.2.1 _ _ _ (h1.kept ((But.refl _ _ _).alloc _)) hl hm f1 f2).mono ?_
    rintro e w1 ⟨rfl, k1⟩
    rw [leftOf_no (by omega)]
    dsimp only
    repeat (first | go_values | go_skip | go_guarded | go_step | go_upon)
    go_ret
    exact ⟨ret_int (leftOf_no (by unfold rulesCost; omega)).symm, But.trans ((But.refl _ _ _).alloc _) k1⟩
  · have d1 : decide (left - (lLCost c.2.1 : Int) < 0) = false := by simp; omega
    go_enter Try.func16, Try.ntmps16
    repeat (first | go_values | go_skip | go_guarded | go_step | go_upon)
    go_at_call 51
    refine (szLL c.2.1 _ _ _ (h1.kept ((But.refl _ _ _).alloc _)) hl hm f1 f2).mono ?_
    rintro e w1 ⟨rfl, k1⟩
    rw [leftOf_yes (by omega)]
    have L0 := (Loc.new w [.int .i64 c.1, .slice a1 c.2.1.length c1, .slice a2 c.2.2.length c2] 38).kept k1
    have a2' := L0.cell 2 rfl
    have K1 := But.trans ((But.refl 0 0 w).alloc (.cells #[.int .i64 c.1, .slice a1 c.2.1.length c1, .slice a2 c.2.2.length c2] 38)) k1
    clear L0 k1
    obtain ⟨M, hM⟩ : ∃ M : Int, left - (lLCost c.2.1 : Int) = M := ⟨_, rfl⟩
    rw [hM] at d1 ⊢
    have HM : Hid (left - (lLCost c.2.1 : Int) = M) := hM
    have hM0 : 0 ≤ M ∧ M ≤ 1048576 := by omega
    clear hM
    dsimp only
    repeat (first | go_values | go_skip | go_guarded | go_step | go_upon)
    go_at_call 51
    refine (szLL c.2.2 _ _ _ (h2.kept K1) hM0.1 hM0.2 f3 f4).mono ?_
    rintro e w2 ⟨rfl, k2⟩
    have hM := HM.out
    by_cases hc2 : M < (lLCost c.2.2 : Int)
    · rw [leftOf_no hc2]
      clear hM
      dsimp only
      repeat (first | go_values | go_skip | go_guarded | go_step | go_upon)
      go_ret
      exact ⟨ret_int (leftOf_no (by have := HM.out; unfold rulesCost; omega)).symm, K1.trans k2⟩
    · have d2 : decide (M - (lLCost c.2.2 : Int) < 0) = false := by simp; omega
      rw [leftOf_yes (by omega)]
      clear hM
      dsimp only
      repeat (first | go_values | go_skip | go_guarded | go_step | go_upon)
      go_ret
      exact ⟨ret_int (by have := HM.out; rw [leftOf_yes (by unfold rulesCost; omega)]; unfold rulesCost; omega), K1.trans k2⟩

set_option maxHeartbeats 4000000 in
theorem toRules (c : RulesD) (v : Value) (w : World) (hv : RulesAt w v c) (hl1 : c.2.1.length ≤ 1048576) (hp1 : ∀ p ∈ c.2.1, p.length ≤ 1048576) (hl2 : c.2.2.length ≤ 1048576) (hp2 : ∀ p ∈ c.2.2, p.length ≤ 1048576) :
    Calls Try.prog 18 #[v] w fun e w' => ∃ v', e = .returned v' ∧ RulesO w' w.heap.size w'.heap.size v' c ∧ Kept w w' := by
  obtain ⟨a1, c1, a2, c2, hfm⟩ := hv.form
  subst hfm
  obtain ⟨h1, h2⟩ := hv.parts
  go_enter Try.func18, Try.ntmps18
  repeat (first | go_values | go_skip | go_guarded | go_step | go_upon)
  go_at_call 53
  have K0 : Kept w (((w.alloc (.cells #[.int .i64 c.1, .slice a1 c.2.1.length c1, .slice a2 c.2.2.length c2] 38)).alloc (.cells #[.int .i64 0, .slice none 0 0, .slice none 0 0] 25)).alloc (.cells #[.int .i64 c.1, .slice none 0 0, .slice none 0 0] 25)) := (((But.refl _ _ _).alloc _).alloc _).alloc _
  refine (toLL c.2.1 _ _ (h1.kept K0) hl1 hp1).mono ?_
  rintro e w1 ⟨v1, rfl, o1, k1⟩
  have L0 := (((Loc.new w [.int .i64 c.1, .slice a1 c.2.1.length c1, .slice a2 c.2.2.length c2] 38).alloc (.cells #[.int .i64 0, .slice none 0 0, .slice none 0 0] 25)).alloc (.cells #[.int .i64 c.1, .slice none 0 0, .slice none 0 0] 25)).kept k1
  have L1 := ((Loc.new (w.alloc (.cells #[.int .i64 c.1, .slice a1 c.2.1.length c1, .slice a2 c.2.2.length c2] 38)) [.int .i64 0, .slice none 0 0, .slice none 0 0] 25).alloc (.cells #[.int .i64 c.1, .slice none 0 0, .slice none 0 0] 25)).kept k1
  have L2 := (Loc.new ((w.alloc (.cells #[.int .i64 c.1, .slice a1 c.2.1.length c1, .slice a2 c.2.2.length c2] 38)).alloc (.cells #[.int .i64 0, .slice none 0 0, .slice none 0 0] 25)) [.int .i64 c.1, .slice none 0 0, .slice none 0 0] 25).kept k1
  have K1 := K0.trans k1
  have s1 := k1.size
  simp only [World.size_alloc] at L0 L1 L2 o1 s1
  obtain ⟨b1, e1, hfm⟩ := o1.form
  subst hfm
  clear K0 k1
  have p2 := L0.cell 2 rfl
  have q1 := L2.cell 1 rfl
  have qf1 := L2.frozen 1
  dsimp only
  repeat (first | go_values | go_skip | go_guarded | go_step | go_upon)
  go_at_call 53
  have B1 : But (w.heap.size + 1 + 1) (w.heap.size + 1 + 1 + 1) w1 (w1.setCell ⟨w.heap.size + 1 + 1, 1, none⟩ (.slice b1 c.2.1.length e1)) := (But.refl _ _ _).setCell (p := ⟨w.heap.size + 1 + 1, 1, none⟩) (Nat.le_refl _) (Nat.lt_succ_self _) _
  have K2 : Kept w (w1.setCell ⟨w.heap.size + 1 + 1, 1, none⟩ (.slice b1 c.2.1.length e1)) := K1.onto B1 (by omega)
  refine (toLL c.2.2 _ _ (h2.kept K2) hl2 hp2).mono ?_
  rintro e w2 ⟨v2, rfl, o2, k2⟩
  have o1 := (o1.but B1 (by omega)).kept k2
  have s2 := k2.size
  have s2' := B1.size
  have L1 := (L1.but B1 (by omega)).kept k2
  have L2 := (L2.set 1 (.slice b1 c.2.1.length e1)).kept k2
  have K3 := K2.trans k2
  obtain ⟨b2, e2, hfm⟩ := o2.form
  subst hfm
  simp only [World.size_setCell] at o2 s2
  clear p2 q1 qf1 K1 K2 k2 L0
  have r0 := L1.cell 0 rfl
  have r1 := L1.cell 1 rfl
  have r2 := L1.cell 2 rfl
  have rf0 := L1.frozen 0
  have rf1 := L1.frozen 1
  have rf2 := L1.frozen 2
  have q0 := L2.cell 0 rfl
  have q1 := L2.cell 1 rfl
  have q2 := L2.cell 2 rfl
  have qf2 := L2.frozen 2
  have t1 : ((w2.setCell ⟨w.heap.size + 1, 0, none⟩ (.int .i64 c.1)).cell? ⟨w.heap.size + 1, 1, none⟩).isSome = true := by simp [go_sem, *]
  have t2 : (((w2.setCell ⟨w.heap.size + 1, 0, none⟩ (.int .i64 c.1)).setCell ⟨w.heap.size + 1, 1, none⟩ (.slice b1 c.2.1.length e1)).cell? ⟨w.heap.size + 1, 2, none⟩).isSome = true := by simp [go_sem, *]
  dsimp only
  repeat (first | go_values | go_skip | go_guarded | go_step | go_upon)
  have B2 : But (w.heap.size + 1) (w.heap.size + 1 + 1 + 1) w2 ((((w2.setCell ⟨w.heap.size + 1 + 1, 2, none⟩ (.slice b2 c.2.2.length e2)).setCell ⟨w.heap.size + 1, 0, none⟩ (.int .i64 c.1)).setCell ⟨w.heap.size + 1, 1, none⟩ (.slice b1 c.2.1.length e1)).setCell ⟨w.heap.size + 1, 2, none⟩ (.slice b2 c.2.2.length e2)) :=
    ((((But.refl _ _ _).setCell (by simp) (by simp) _).setCell (by simp) (by simp; try omega) _).setCell (by simp) (by simp; try omega) _).setCell (by simp) (by simp; try omega) _
  refine bodyPost_ret (v := .agg #[.int .i64 c.1, .slice b1 c.2.1.length e1, .slice b2 c.2.2.length e2]) (by simp [results, Try.results18, go_sem, *]) rfl ?_
  exact ⟨_, rfl, ⟨_, _, w1.heap.size, rfl, ((o1.but B2 (by omega)).mono (by omega) (by omega)), ((o2.but B2 (by omega)).mono (by omega) B2.size), by omega, by have := B2.size; omega⟩, K3.onto B2 (by omega)⟩

set_option maxHeartbeats 4000000 in
theorem eqRules (c : RulesD) (v v' : Value) (w : World) (hv : RulesAt w v c) (hv' : RulesAt w v' c) (hl1 : c.2.1.length ≤ 1048576) (hp1 : ∀ p ∈ c.2.1, p.length ≤ 1048576) (hl2 : c.2.2.length ≤ 1048576) (hp2 : ∀ p ∈ c.2.2, p.length ≤ 1048576) :
    Calls Try.prog 20 #[v, v'] w fun e w' => e = .returned (.bool true) ∧ Kept w w' := by
  obtain ⟨a1, c1, a2, c2, hfm⟩ := hv.form
  subst hfm
  obtain ⟨h1, h2⟩ := hv.parts
  obtain ⟨b1, e1, b2, e2, hfm⟩ := hv'.form
  subst hfm
  obtain ⟨g1, g2⟩ := hv'.parts
  have K0 : Kept w ((w.alloc (.cells #[.int .i64 c.1, .slice a1 c.2.1.length c1, .slice a2 c.2.2.length c2] 25)).alloc (.cells #[.int .i64 c.1, .slice b1 c.2.1.length e1, .slice b2 c.2.2.length e2] 25)) := ((But.refl _ _ _).alloc _).alloc _
  go_enter Try.func20, Try.ntmps20
  repeat (first | go_values | go_skip | go_guarded | go_step | go_upon)
  go_at_call 55
  refine (eqLL c.2.1 _ _ _ (h1.kept K0) (g1.kept K0) (by omega) (fun p hp => by have := hp1 p hp; omega)).mono ?_
  rintro e w1 ⟨rfl, k1⟩
  have L0 := ((Loc.new w [.int .i64 c.1, .slice a1 c.2.1.length c1, .slice a2 c.2.2.length c2] 25).alloc (.cells #[.int .i64 c.1, .slice b1 c.2.1.length e1, .slice b2 c.2.2.length e2] 25)).kept k1
  have L1 := (Loc.new (w.alloc (.cells #[.int .i64 c.1, .slice a1 c.2.1.length c1, .slice a2 c.2.2.length c2] 25)) [.int .i64 c.1, .slice b1 c.2.1.length e1, .slice b2 c.2.2.length e2] 25).kept k1
  have K1 := K0.trans k1
  simp only [World.size_alloc] at L0 L1
  clear K0 k1
  have p2 := L0.cell 2 rfl
  have q2 := L1.cell 2 rfl
  dsimp only
  repeat (first | go_values | go_skip | go_guarded | go_step | go_upon)
  go_at_call 55
  refine (eqLL c.2.2 _ _ _ (h2.kept K1) (g2.kept K1) (by omega) (fun p hp => by have := hp2 p hp; omega)).mono ?_
  rintro e w2 ⟨rfl, k2⟩
  dsimp only
  repeat (first | go_values | go_skip | go_guarded | go_step | go_upon)
  go_ret
  exact ⟨rfl, K1.trans k2⟩

theorem but_wide {w w' : World} {lo hi lo' hi' : Nat} (k : But lo hi w w') (h1 : lo' ≤ lo) (h2 : hi ≤ hi') : But lo' hi' w w' := k.mono h1 h2

set_option maxHeartbeats 4000000 in
theorem markRules (c : RulesD) (v : Value) (k lo hi : Nat) (w : World) (hv : RulesO w lo hi v c) (hlo : hi ≤ w.heap.size) (hb : k + rulesCost c ≤ 1000000000) :
    Calls Try.prog 30 #[v, .int .i64 (k : Int)] w fun e w' => ∃ k' : Nat, k' ≤ k + rulesCost c ∧ e = .returned (.int .i64 (k' : Int)) ∧ But lo hi w w' := by
  obtain ⟨a1, c1, a2, c2, hfm⟩ := hv.form
  subst hfm
  obtain ⟨s, t, mid, e, h1, h2, m1, m2⟩ := hv
  cases e
  have z1 := lLCost_len c.2.1
  have z2 := lLCost_len c.2.2
  have y1 : lLSum c.2.1 + c.2.1.length = lLCost c.2.1 := by unfold lLCost; omega
  have y2 : lLSum c.2.2 + c.2.2.length = lLCost c.2.2 := by unfold lLCost; omega
  unfold rulesCost at hb ⊢
  obtain ⟨M, hM⟩ : ∃ M, k + lLSum c.2.1 = M := ⟨_, rfl⟩
  obtain ⟨N, hN⟩ : ∃ N, M + lLSum c.2.2 = N := ⟨_, rfl⟩
  have HM : Hid (k + lLSum c.2.1 = M ∧ M + lLSum c.2.2 = N) := ⟨hM, hN⟩
  have hkn : N ≤ k + (lLCost c.2.1 + lLCost c.2.2) ∧ N ≤ 1000000000 ∧ M ≤ N ∧ c.2.1.length ≤ 1000000000000 ∧ c.2.2.length ≤ 1000000000000 := by omega
  have HK : Hid (N ≤ k + (lLCost c.2.1 + lLCost c.2.2)) := hkn.1
  obtain ⟨-, hn2, hn3, hn4, hn5⟩ := hkn
  clear hM hN z1 z2 y1 y2 hb
  go_enter Try.func30, Try.ntmps30
  repeat (first | go_values | go_skip | go_guarded | go_step | go_upon)
  go_at_call 62
  have K0 : Kept w (w.alloc (.cells #[.int .i64 c.1, .slice a1 c.2.1.length c1, .slice a2 c.2.2.length c2] 25)) := (But.refl _ _ _).alloc _
  have h1 := h1.kept K0
  have h2 := h2.kept K0
  refine (markLL c.2.1 _ k lo mid _ h1 (by have := HM.out; omega) hn4).mono ?_
  rintro e w1 ⟨rfl, o1, k1⟩
  rw [HM.out.1]
  have L0 := Loc.but (Loc.new w [.int .i64 c.1, .slice a1 c.2.1.length c1, .slice a2 c.2.2.length c2] 25) k1 (by omega)
  have h2 := h2.but k1 (by omega)
  have C1 : But lo hi w w1 := (But.of K0).trans (k1.mono (by omega) m2)
  clear o1 k1 K0 h1
  have p2 := L0.cell 2 rfl
  dsimp only
  repeat (first | go_values | go_skip | go_guarded | go_step | go_upon)
  go_at_call 62
  refine (markLL c.2.2 _ M mid hi _ h2 (by have := HM.out; omega) hn5).mono ?_
  rintro e w2 ⟨rfl, o2, k2⟩
  rw [HM.out.2]
  dsimp only
  repeat (first | go_values | go_skip | go_guarded | go_step | go_upon)
  go_ret
  exact ⟨N, HK.out, rfl, C1.trans (k2.mono m1 (by omega))⟩

end Go.Proofs.Ytopakblckajdmaa
