/-
  Grounds as plain data, how they lie in memory, and what they weigh.
-/
import Derived.Test.YthohgehhoogpnaaLL
import Derived.Test.YthohgehhoogpnaaTo
import Derived.Test.YthohgehhoogpnaaEq
import Derived.Test.YthohgehhoogpnaaMarks
namespace Go.Proofs.Ythohgehhoogpnaa
open Go.ChangeShapes Go.WideShapes Go.ChangeAt Go.RowKit

abbrev GroundD := List Spot2D × List (List NumD)
def GroundAt (w : World) (v : Value) (g : GroundD) : Prop := ∃ pv fv, v = .agg #[pv, fv] ∧ Spot2At w pv g.1 ∧ LLAt w fv g.2
def GroundO (w : World) (lo hi : Nat) (v : Value) (g : GroundD) : Prop := ∃ pv fv, v = .agg #[pv, fv] ∧ Spot2O w lo hi pv g.1 ∧ LLO w lo hi fv g.2
theorem GroundAt.kept {w w' : World} {v : Value} {g : GroundD} (h : GroundAt w v g) (k : Kept w w') : GroundAt w' v g := by
  obtain ⟨pv, fv, e, h1, h2⟩ := h
  exact ⟨pv, fv, e, h1.kept k, h2.kept k⟩
theorem GroundO.kept {w w' : World} {lo hi : Nat} {v : Value} {g : GroundD} (h : GroundO w lo hi v g) (k : Kept w w') : GroundO w' lo hi v g := by
  obtain ⟨pv, fv, e, h1, h2⟩ := h
  exact ⟨pv, fv, e, h1.kept k, h2.kept k⟩
theorem GroundO.but {w w' : World} {lo hi lo' hi' : Nat} {v : Value} {g : GroundD} (h : GroundO w lo hi v g) (k : But lo' hi' w w') (ho : hi ≤ lo' ∨ hi' ≤ lo) : GroundO w' lo hi v g := by
  obtain ⟨pv, fv, e, h1, h2⟩ := h
  exact ⟨pv, fv, e, h1.but k ho, h2.but k ho⟩
theorem GroundO.at {w : World} {lo hi : Nat} {v : Value} {g : GroundD} (h : GroundO w lo hi v g) : GroundAt w v g := by
  obtain ⟨pv, fv, e, h1, h2⟩ := h
  exact ⟨pv, fv, e, h1.at, h2.at⟩
theorem GroundAt.form {w : World} {v : Value} {g : GroundD} (h : GroundAt w v g) : ∃ a c b d, v = .agg #[.slice a g.1.length c, .slice b g.2.length d] := by
  obtain ⟨pv, fv, rfl, h1, h2⟩ := h
  obtain ⟨a, c, rfl⟩ := row_nil h1
  obtain ⟨b, d, rfl⟩ := h2.form
  exact ⟨a, c, b, d, rfl⟩
theorem GroundAt.parts {w : World} {a b : Option Addr} {m k c d : Nat} {g : GroundD} (h : GroundAt w (.agg #[.slice a m c, .slice b k d]) g) : Spot2At w (.slice a m c) g.1 ∧ LLAt w (.slice b k d) g.2 := by
  obtain ⟨pv, fv, e, h1, h2⟩ := h
  cases e
  exact ⟨h1, h2⟩
def groundCost (g : GroundD) : Nat := g.1.length + lLCost g.2
def GroundFit (g : GroundD) : Prop := g.1.length ≤ 9223372036854775807 ∧ g.2.length ≤ 9223372036854775807 ∧ LLFit g.2

set_option maxHeartbeats 2000000 in
theorem szGround (g : GroundD) (v : Value) (left : Int) (w : World) (hv : GroundAt w v g) (hl : 0 ≤ left) (hm : left ≤ 1048576) (hf : GroundFit g) :
    Calls Try.prog 16 #[v, .int .i64 left] w fun e w' => e = .returned (.int .i64 (leftOf left (groundCost g))) ∧ Kept w w' := by
  obtain ⟨a, c, b, d, rfl⟩ := hv.form
  obtain ⟨h1, h2⟩ := hv.parts
  obtain ⟨f1, f2, f3⟩ := hf
  by_cases hc : left < (g.1.length : Int)
  · go_enter Try.func16, Try.ntmps16
    go_wp2_with (go_at_call 52; refine (szSpot2S g.1 _ _ _ (h1.kept ((But.refl _ _ _).alloc _)) hl hm f1).mono ?_; rintro e w1 ⟨rfl, k1⟩; rw [leftOf_no (by omega)])
    go_ret
    exact ⟨ret_int (leftOf_no (by unfold groundCost; omega)).symm, But.trans ((But.refl _ _ _).alloc _) k1⟩
  · have d1 : decide (left - (g.1.length : Int) < 0) = false := by simp; omega
    by_cases hc2 : left - (g.1.length : Int) < (lLCost g.2 : Int)
    · go_enter Try.func16, Try.ntmps16
      go_wp2_with (first
        | (go_at_call 52; refine (szSpot2S g.1 _ _ _ (h1.kept ((But.refl _ _ _).alloc _)) hl hm f1).mono ?_; rintro e w1 ⟨rfl, k1⟩; rw [leftOf_yes (by omega)]; have L0 := (Loc.new w [.slice a g.1.length c, .slice b g.2.length d] 41).kept k1; have a1 := L0.cell 1 rfl; have K1 := But.trans ((But.refl 0 0 w).alloc _) k1)
        | (go_at_call 53; refine (szLL g.2 _ _ _ (h2.kept K1) (by omega) (by omega) f2 f3).mono ?_; rintro e w2 ⟨rfl, k2⟩; rw [leftOf_no (by omega)]))
      go_ret
      exact ⟨ret_int (leftOf_no (by unfold groundCost; omega)).symm, K1.trans k2⟩
    · have d2 : decide (left - (g.1.length : Int) - (lLCost g.2 : Int) < 0) = false := by simp; omega
      go_enter Try.func16, Try.ntmps16
      go_wp2_with (first
        | (go_at_call 52; refine (szSpot2S g.1 _ _ _ (h1.kept ((But.refl _ _ _).alloc _)) hl hm f1).mono ?_; rintro e w1 ⟨rfl, k1⟩; rw [leftOf_yes (by omega)]; have L0 := (Loc.new w [.slice a g.1.length c, .slice b g.2.length d] 41).kept k1; have a1 := L0.cell 1 rfl; have K1 := But.trans ((But.refl 0 0 w).alloc _) k1)
        | (go_at_call 53; refine (szLL g.2 _ _ _ (h2.kept K1) (by omega) (by omega) f2 f3).mono ?_; rintro e w2 ⟨rfl, k2⟩; rw [leftOf_yes (by omega)]))
      go_ret
      exact ⟨ret_int (by rw [leftOf_yes (by unfold groundCost; omega)]; unfold groundCost; omega), K1.trans k2⟩

set_option maxRecDepth 100000 in
set_option maxHeartbeats 4000000 in
theorem toGround (g : GroundD) (v : Value) (w : World) (hv : GroundAt w v g) (hl1 : g.1.length ≤ 1048576) (hl2 : g.2.length ≤ 1048576) (hp : ∀ p ∈ g.2, p.length ≤ 1048576) :
    Calls Try.prog 18 #[v] w fun e w' => ∃ v', e = .returned v' ∧ GroundO w' w.heap.size w'.heap.size v' g ∧ Kept w w' := by
  obtain ⟨a, c, b, d, rfl⟩ := hv.form
  obtain ⟨h1, h2⟩ := hv.parts
  go_enter Try.func18, Try.ntmps18
  repeat (first | go_values | go_skip | go_guarded | go_step | go_upon)
  go_at_call 56
  have K0 : Kept w (((w.alloc (.cells #[.slice a g.1.length c, .slice b g.2.length d] 41)).alloc (.cells #[.slice none 0 0, .slice none 0 0] 26)).alloc (.cells #[.slice none 0 0, .slice none 0 0] 26)) := (((But.refl _ _ _).alloc _).alloc _).alloc _
  refine (toSpot2S g.1 _ _ (h1.kept K0) hl1).mono ?_
  rintro e w1 ⟨v1, rfl, o1, k1⟩
  have L0 := (((Loc.new w [.slice a g.1.length c, .slice b g.2.length d] 41).alloc (.cells #[.slice none 0 0, .slice none 0 0] 26)).alloc (.cells #[.slice none 0 0, .slice none 0 0] 26)).kept k1
  have L1 := ((Loc.new (w.alloc (.cells #[.slice a g.1.length c, .slice b g.2.length d] 41)) [.slice none 0 0, .slice none 0 0] 26).alloc (.cells #[.slice none 0 0, .slice none 0 0] 26)).kept k1
  have L2 := (Loc.new ((w.alloc (.cells #[.slice a g.1.length c, .slice b g.2.length d] 41)).alloc (.cells #[.slice none 0 0, .slice none 0 0] 26)) [.slice none 0 0, .slice none 0 0] 26).kept k1
  have K1 := K0.trans k1
  have s1 := k1.size
  simp only [World.size_alloc] at L0 L1 L2 o1 s1
  obtain ⟨a1, c1, hfm⟩ := o1.form
  subst hfm
  clear K0 k1
  have p0 := L0.cell 0 rfl
  have pf0 := L0.frozen 0
  have p1 := L0.cell 1 rfl
  have pf1 := L0.frozen 1
  have q0 := L2.cell 0 rfl
  have qf0 := L2.frozen 0
  have q1 := L2.cell 1 rfl
  have qf1 := L2.frozen 1
  dsimp only
  repeat (first | go_values | go_skip | go_guarded | go_step | go_upon)
  go_at_call 57
  have B1 : But (w.heap.size + 1 + 1) (w.heap.size + 1 + 1 + 1) w1 (w1.setCell ⟨w.heap.size + 1 + 1, 0, none⟩ (.slice a1 g.1.length c1)) := (But.refl _ _ _).setCell (p := ⟨w.heap.size + 1 + 1, 0, none⟩) (Nat.le_refl _) (Nat.lt_succ_self _) _
  have K2 : Kept w (w1.setCell ⟨w.heap.size + 1 + 1, 0, none⟩ (.slice a1 g.1.length c1)) := K1.onto B1 (by omega)
  refine (toLL g.2 _ _ (h2.kept K2) hl2 hp).mono ?_
  rintro e w2 ⟨v2, rfl, o2, k2⟩
  have o1 := (o1.but B1 (by omega)).kept k2
  have s2 := k2.size
  have s2' := B1.size
  have L1 := (L1.but B1 (by omega)).kept k2
  have L0 := (L0.but B1 (by omega)).kept k2
  have L2 := (L2.set 0 (.slice a1 g.1.length c1)).kept k2
  have K3 := K2.trans k2
  obtain ⟨a2, c2, hfm⟩ := o2.form
  subst hfm
  clear p0 p1 q0 q1 pf0 pf1 qf0 qf1 K1 K2 k2
  have r0 := L1.cell 0 rfl
  have rf0 := L1.frozen 0
  have r1 := L1.cell 1 rfl
  have rf1 := L1.frozen 1
  have q0 := L2.cell 0 rfl
  have qf0 := L2.frozen 0
  have q1 := L2.cell 1 rfl
  have qf1 := L2.frozen 1
  have s0 : ((w2.setCell ⟨w.heap.size + 1, 0, none⟩ (.slice a1 g.1.length c1)).cell? ⟨w.heap.size + 1, 1, none⟩).isSome = true := by simp [go_sem, *]
  dsimp only
  repeat (first | go_values | go_skip | go_guarded | go_step | go_upon)
  have B2 : But (w.heap.size + 1) (w.heap.size + 1 + 1 + 1) w2 (((w2.setCell ⟨w.heap.size + 1 + 1, 1, none⟩ (.slice a2 g.2.length c2)).setCell ⟨w.heap.size + 1, 0, none⟩ (.slice a1 g.1.length c1)).setCell ⟨w.heap.size + 1, 1, none⟩ (.slice a2 g.2.length c2)) :=
    (((But.refl _ _ _).setCell (by simp) (by simp) _).setCell (by simp) (by simp; try omega) _).setCell (by simp) (by simp; try omega) _
  refine bodyPost_ret (v := .agg #[.slice a1 g.1.length c1, .slice a2 g.2.length c2]) (by simp [results, Try.results18, go_sem, *]) rfl ?_
  exact ⟨_, rfl, ⟨_, _, rfl, ((o1.but B2 (by omega)).mono (by omega) (by have := B2.size; omega)), ((o2.but B2 (by omega)).mono (by omega) B2.size)⟩, K3.onto B2 (by omega)⟩

set_option maxRecDepth 100000 in
set_option maxHeartbeats 4000000 in
theorem eqGround (g : GroundD) (v v' : Value) (w : World) (hv : GroundAt w v g) (hv' : GroundAt w v' g) (hn1 : g.1.length ≤ 9000000000000000000) (hn2 : g.2.length ≤ 9000000000000000000) (hm : ∀ p ∈ g.2, p.length ≤ 9000000000000000000) :
    Calls Try.prog 20 #[v, v'] w fun e w' => e = .returned (.bool true) ∧ Kept w w' := by
  obtain ⟨a, c, b, d, rfl⟩ := hv.form
  obtain ⟨h1, h2⟩ := hv.parts
  obtain ⟨a', c', b', d', rfl⟩ := hv'.form
  obtain ⟨h1', h2'⟩ := hv'.parts
  have K0 : Kept w ((w.alloc (.cells #[.slice a g.1.length c, .slice b g.2.length d] 26)).alloc (.cells #[.slice a' g.1.length c', .slice b' g.2.length d'] 26)) := ((But.refl _ _ _).alloc _).alloc _
  go_enter Try.func20, Try.ntmps20
  repeat (first | go_values | go_skip | go_guarded | go_step | go_upon)
  go_at_call 37
  refine (eqSpot2S g.1 _ _ _ (h1.kept K0) (h1'.kept K0) hn1).mono ?_
  rintro e w1 ⟨rfl, k1⟩
  have L0 := ((Loc.new w [.slice a g.1.length c, .slice b g.2.length d] 26).alloc (.cells #[.slice a' g.1.length c', .slice b' g.2.length d'] 26)).kept k1
  have L1 := (Loc.new (w.alloc (.cells #[.slice a g.1.length c, .slice b g.2.length d] 26)) [.slice a' g.1.length c', .slice b' g.2.length d'] 26).kept k1
  have K1 := K0.trans k1
  simp only [World.size_alloc] at L0 L1
  clear K0 k1
  have p0 := L0.cell 0 rfl
  have pf0 := L0.frozen 0
  have p1 := L0.cell 1 rfl
  have pf1 := L0.frozen 1
  have q0 := L1.cell 0 rfl
  have qf0 := L1.frozen 0
  have q1 := L1.cell 1 rfl
  have qf1 := L1.frozen 1
  dsimp only
  repeat (first | go_values | go_skip | go_guarded | go_step | go_upon)
  go_at_call 33
  refine (eqLL g.2 _ _ _ (h2.kept K1) (h2'.kept K1) hn2 hm).mono ?_
  rintro e w2 ⟨rfl, k2⟩
  dsimp only
  repeat (first | go_values | go_skip | go_guarded | go_step | go_upon)
  go_ret
  exact ⟨rfl, K1.trans k2⟩

theorem LLO.types {w w' : World} {lo hi lo' hi' : Nat} {v u : Value} {fs : List (List NumD)} {e' : TypeId} {s' m : Nat} {xs : List Value} (h : LLO w lo hi v fs) (hu : RowO w lo' hi' e' s' u m xs) (n1 : 27 ≠ e') (n2 : 3 ≠ e') (k : But (blo u) (bhi u) w w') : LLO w' lo hi v fs := by
  obtain ⟨rs, h, e⟩ := h
  exact ⟨rs, ⟨RowO.apart h.row k (ap_types h.row hu n1), fun i r hr => RowO.apart (h.inn i r hr) k (ap_types (h.inn i r hr) hu n2), h.apart⟩, e⟩
set_option maxRecDepth 100000 in
set_option maxHeartbeats 4000000 in
theorem markGround (g : GroundD) (v : Value) (k lo hi : Nat) (w : World) (hv : GroundO w lo hi v g) (hlo : hi ≤ w.heap.size) (hb : k + 2 * g.1.length + lLSum g.2 ≤ 1000000000000) (hn : g.2.length ≤ 1000000000000) :
    Calls Try.prog 26 #[v, .int .i64 (k : Int)] w fun e w' => e = .returned (.int .i64 ((k + 2 * g.1.length + lLSum g.2 : Nat) : Int)) ∧ But lo hi w w' := by
  obtain ⟨a, c, b, d, rfl⟩ := hv.at.form
  obtain ⟨pv, fv, e, h1, h2⟩ := hv
  cases e
  go_enter Try.func26, Try.ntmps26
  repeat (first | go_values | go_skip | go_guarded | go_step | go_upon)
  go_at_call 38
  have K0 : Kept w (w.alloc (.cells #[.slice a g.1.length c, .slice b g.2.length d] 26)) := (But.refl _ _ _).alloc _
  have h1 := h1.kept K0
  have h2 := h2.kept K0
  refine (markSpot2S g.1 _ k lo hi _ h1 (by omega)).mono ?_
  rintro e w1 ⟨rfl, o1, k1⟩
  have B1 := But.inner k1 h1
  have L0 := Loc.but (Loc.new w [.slice a g.1.length c, .slice b g.2.length d] 26) B1 (by omega)
  have h2 := h2.types h1 (by decide) (by decide) k1
  have C1 : But lo hi w w1 := But.trans (But.of K0) B1
  clear o1 k1 B1 K0
  have p1 := L0.cell 1 rfl
  obtain ⟨M, hM⟩ : ∃ M, k + 2 * g.1.length = M := ⟨_, rfl⟩
  rw [hM] at hb ⊢
  have HM : Hid (k + 2 * g.1.length = M) := hM
  clear hM
  dsimp only
  repeat (first | go_values | go_skip | go_guarded | go_step | go_upon)
  go_at_call 34
  refine (markLL g.2 _ M lo hi _ h2 hb hn).mono ?_
  rintro e w2 ⟨rfl, o2, k2⟩
  dsimp only
  repeat (first | go_values | go_skip | go_guarded | go_step | go_upon)
  go_ret
  exact ⟨ret_int (by rw [← HM.out]), C1.trans k2⟩

end Go.Proofs.Ythohgehhoogpnaa
