/-
  Whether a face has a place, in the specification.
-/
import Derived.Test.YthohgehhoogpnaaGood8
namespace Go.Proofs.Ythohgehhoogpnaa
open Go.ChangeShapes Go.WideShapes Go.ChangeAt Go.RowKit

set_option maxRecDepth 100000
set_option linter.unusedVariables false
/-- A face has a place. -/
def HasP (pts : List Spot2D) (f : List NumD) (p : Spot2D) : Prop := ∀ i, i < f.length → 0 ≤ cross (ptAt pts f i) (ptAt pts f ((i + 1) % f.length)) p
/-- The corners of a good face are points. -/
theorem face_pt {pts : List Spot2D} {f : List NumD} (h : FaceOk pts f) (hpl : ∀ p ∈ pts, PlaceP p) (i : Nat) (p : Int) (hpi : f[i]? = some p) : ∃ (j : Nat) (x y : Int), p = (j : Int) ∧ pts[j]? = some (x, y) ∧ PlaceP (x, y) ∧ ptAt pts f i = (x, y) := by
  have hil : i < f.length := (List.getElem?_eq_some_iff.1 hpi).1
  obtain ⟨h0, h1⟩ := ((h.2.2.1 i hil) p hpi).1
  have hj : p.toNat < pts.length := by omega
  obtain ⟨s, hs⟩ : ∃ s, pts[p.toNat]? = some s := ⟨_, List.getElem?_eq_getElem hj⟩
  exact ⟨p.toNat, s.1, s.2, by omega, hs, hpl s (List.mem_of_getElem? hs), pt_of hpi hs⟩
theorem good_pl {g : GroundD} (h : GoodG g) : ∀ p ∈ g.1, PlaceP p := fun p hp => by
  obtain ⟨i, hi⟩ := List.mem_iff_getElem?.1 hp
  exact (h.2.2.2.1 i (List.getElem?_eq_some_iff.1 hi).1 p hi).1
theorem good_face {g : GroundD} (h : GoodG g) {k : Nat} {f : List NumD} (hf : g.2[k]? = some f) : FaceOk g.1 f := ((h.2.2.2.2 k (List.getElem?_eq_some_iff.1 hf).1) f hf).1

set_option maxHeartbeats 8000000 in
theorem shas (g : GroundD) (pv fv : Value) (w : World) (hP : Spot2At w pv g.1) (hF : LLAt w fv g.2) (hG : GoodG g) (k : Nat) (f : List NumD) (hfk : g.2[k]? = some f) (px py : Int) (hp : PlaceP (px, py)) :
    Calls Try.prog 48 #[.agg #[pv, fv], .int .i64 (k : Int), .agg #[.int .i64 px, .int .i64 py]] w fun e w' => Says (HasP g.1 f (px, py)) e ∧ Kept w w' := by
  have hG1 := hG.1
  have hG2 := hG.2.2.1
  have hkl : k < g.2.length := (List.getElem?_eq_some_iff.1 hfk).1
  have hfo := good_face hG hfk
  have hf8 := hfo.2.1
  obtain ⟨ap, cp, hsl⟩ := row_nil hP
  subst hsl
  obtain ⟨bf, of, cf, u, e, c0, hu⟩ := lL_get hF hfk
  subst e
  obtain ⟨au, cu, hsu⟩ := row_nil hu
  subst hsu
  have q0 := cell_ltG c0
  have HPT : Hid _ := face_pt hfo (good_pl hG)
  obtain ⟨W0, hW0⟩ : ∃ W, W = (w.alloc (.cells #[.slice ap g.1.length cp, .slice (some ⟨bf, of, none⟩) g.2.length cf] 26)).alloc (.cells #[.int .i64 px, .int .i64 py] 29) := ⟨_, rfl⟩
  have K0 : Kept w W0 := by rw [hW0]; exact ((But.refl _ _ _).alloc _).alloc _
  have g0 : W0.cell? ⟨w.heap.size, 0, none⟩ = some (.slice ap g.1.length cp) := by rw [hW0]; simp [go_sem]
  have p0 : W0.cell? ⟨w.heap.size + 1, 0, none⟩ = some (.int .i64 px) := by rw [hW0]; simp [go_sem]
  have p1 : W0.cell? ⟨w.heap.size + 1, 1, none⟩ = some (.int .i64 py) := by rw [hW0]; simp [go_sem]
  have HW0 : Hid (W0 = _) := hW0
  have HG : Hid (GoodG g) := hG
  clear hG hfk hfo hW0
  go_enter Try.func48, Try.ntmps48
  go_wp2
  rw [← HW0.out]
  have hPA := hP.kept K0
  have hUA := hu.kept K0
  clear HW0
  go_loopw [17] (fun i wr => ∃ m : Nat, m ≤ f.length ∧ i = .int .i64 m ∧ (∀ j, j < m → 0 ≤ cross (ptAt g.1 f j) (ptAt g.1 f ((j + 1) % f.length)) (px, py)) ∧ Kept W0 wr) (fun i _ => f.length - (intOf i).toNat)
  case atStart => exact ⟨0, by omega, rfl, fun j hj => by omega, But.refl _ _ _⟩
  case round =>
    obtain ⟨m, hm', rfl, hne, hkz⟩ := hrel
    rename World => WZ
    have HNE : Hid (∀ j, j < m → 0 ≤ cross (ptAt g.1 f j) (ptAt g.1 f ((j + 1) % f.length)) (px, py)) := hne
    clear hne
    by_cases hmt : m < f.length
    · obtain ⟨a, ha⟩ : ∃ q, f[m]? = some q := ⟨_, List.getElem?_eq_getElem hmt⟩
      obtain ⟨J, hJ⟩ : ∃ J, (m + 1) % f.length = J := ⟨_, rfl⟩
      have hJl : J < f.length := by rw [← hJ]; exact Nat.mod_lt _ (by omega)
      obtain ⟨d, hd⟩ : ∃ q, f[J]? = some q := ⟨_, List.getElem?_eq_getElem hJl⟩
      obtain ⟨i1, x1, y1, e1, hs1, hP1, ht1⟩ := HPT.out m a ha
      obtain ⟨i2, x2, y2, e2, hs2, hP2, ht2⟩ := HPT.out J d hd
      subst e1 e2
      obtain ⟨b4, o4, cap4, e, c4⟩ := num_get (hUA.kept hkz) ha
      cases e
      obtain ⟨b5, o5, cap5, e, c5⟩ := num_get (hUA.kept hkz) hd
      cases e
      obtain ⟨b6, o6, cap6, e, u0, u1⟩ := spot2_get (hPA.kept hkz) hs1
      cases e
      obtain ⟨b7, o7, cap7, e, v0, v1⟩ := spot2_get (hPA.kept hkz) hs2
      cases e
      dsimp only at u0 u1 v0 v1
      have hmod := mod_next m f.length hmt
      rw [hJ] at hmod
      have z0 : ((f.length : Int) == 0) = false := beq_eq_false_iff_ne.2 (by omega)
      have l1 : (i1 : Int) < (g.1.length : Int) := by have := (List.getElem?_eq_some_iff.1 hs1).1; omega
      have l2 : (i2 : Int) < (g.1.length : Int) := by have := (List.getElem?_eq_some_iff.1 hs2).1; omega
      obtain ⟨C, hC⟩ : ∃ C, cross (x1, y1) (x2, y2) (px, py) = C := ⟨_, rfl⟩
      have HC : Hid (cross (ptAt g.1 f m) (ptAt g.1 f ((m + 1) % f.length)) (px, py) = C) := by
        show _ = C
        rw [hJ, ht1, ht2, hC]
      have HCR : Hid (∀ W, Calls Try.prog 49 #[.agg #[.int .i64 x1, .int .i64 y1], .agg #[.int .i64 x2, .int .i64 y2], .agg #[.int .i64 px, .int .i64 py]] W fun e w' => e = .returned (.int .i64 C) ∧ Kept W w') := fun W => by
        have := scross x1 y1 x2 y2 px py W hP1 hP2 hp
        rw [hC] at this
        exact this
      have g1 := Kept.cell hkz g0
      have r0 := Kept.cell hkz p0
      have r1 := Kept.cell hkz p1
      have HKZ : Hid (Kept W0 WZ) := hkz
      have q1 := cell_ltG g1
      have q2 := cell_ltG c4
      have q3 := cell_ltG u0
      have q4 := cell_ltG r0
      clear hC hs1 hs2 ht1 ht2 hP1 hP2 hkz ha hd hJ
      by_cases hc0 : C < 0
      · have dc : decide (C < 0) = true := by simpa using hc0
        repeat (first | go_values | go_skip | go_guarded | go_step | go_upon)
        refine wp_region_kept (by kernel_rfl) (by kernel_rfl) ?_
        have hcc := KW.cell_eq WZ
        repeat (go_big_quiet_step (first | (go_at_call 49; exact kw_call (HCR.out _))))
        refine wpQuiet_nil ?_
        rintro w9 ⟨⟨w8, k9⟩, h9⟩
        change w9 = w8 at h9
        subst h9
        clear hcc
        repeat (first | go_values | go_skip | go_guarded | go_step | go_upon)
        go_ret
        exact ⟨says_no (fun h => by have := h m hmt; rw [HC.out] at this; omega), (K0.trans HKZ.out).trans k9⟩
      · have dc : decide (C < 0) = false := by simpa using hc0
        repeat (first | go_values | go_skip | go_guarded | go_step | go_upon)
        refine wp_region_kept (by kernel_rfl) (by kernel_rfl) ?_
        have hcc := KW.cell_eq WZ
        repeat (go_big_quiet_step (first | (go_at_call 49; exact kw_call (HCR.out _))))
        refine wpQuiet_nil ?_
        rintro w9 ⟨⟨w8, k9⟩, h9⟩
        change w9 = w8 at h9
        subst h9
        clear hcc
        repeat (first | go_values | go_skip | go_guarded | go_step | go_upon)
        refine ⟨⟨m + 1, hmt, by go_num, fun j hj => ?_, HKZ.out.trans k9⟩, by simp [intOf]; omega⟩
        rcases Nat.lt_succ_iff_lt_or_eq.1 hj with hj | rfl
        · exact HNE.out j hj
        · rw [HC.out]
          omega
    · have hme : m = f.length := by omega
      subst hme
      go_wp2
      go_ret
      exact ⟨says_yes HNE.out, K0.trans hkz⟩

end Go.Proofs.Ythohgehhoogpnaa
