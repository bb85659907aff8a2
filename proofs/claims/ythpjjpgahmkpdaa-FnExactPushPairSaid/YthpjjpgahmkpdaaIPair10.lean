/-
  Two bodies of a row that push one another, as the program says it.
-/
import Derived.Test.YthpjjpgahmkpdaaStop10
import Derived.Test.YthpjjpgahmkpdaaPush10
namespace Go.Proofs.Ythpjjpgahmkpdaa
open Go.ChangeShapes Go.WideShapes Go.ChangeAt Go.RowKit

set_option maxRecDepth 100000
set_option linter.unusedVariables false
set_option linter.unusedSimpArgs false

theorem forgetX {K : Act → World → Prop} {Q : Exit → Act → World → Prop} {a : Act} {W : World} (F : World → Prop) (hF : F W) (h : ∀ W', F W' → Exit.then K Q Exit.normal a W') : Exit.then K Q Exit.normal a W := h W hF
theorem itakeR (ps : List BodyD) (i O lo hi g n cap : Nat) (x p m r j : Int) (w : World) (ho : SolidO w lo hi (.slice (some ⟨g, 0, none⟩) n cap) ps) (hn : n = ps.length) (hO : O = i * 4) (ha : ps[i]? = some (x, p, m, r)) (hj : -9000000000000000000 ≤ p + j ∧ p + j ≤ 9000000000000000000) :
    Calls Try.prog 111 #[.pointer (some ⟨g, O, none⟩), .int .i64 j] w fun e w' => e = .returned (.tuple #[]) ∧ SolidO w' lo hi (.slice (some ⟨g, 0, none⟩) n cap) (ps.set i (took (x, p, m, r) j)) ∧ But g (g + 1) w w' := by
  obtain ⟨a0, a1, a2, _, zf⟩ := ho.cells ha
  subst hO
  refine (itake g (i * 4) x p m j w a0 a1 a2 (zf _) hj).mono ?_
  rintro e w' ⟨rfl, w5, k5, rfl⟩
  refine ⟨rfl, ?_⟩
  by_cases hm : m = 0
  · rw [if_pos hm, show took (x, p, m, r) j = (x, p, m, r) by simp [took, hm]]
    rw [show ps.set i (x, p, m, r) = ps from by
      obtain ⟨h1, h2⟩ := List.getElem?_eq_some_iff.1 ha
      rw [← h2, List.set_getElem_self]]
    exact ⟨ho.kept k5, But.of k5⟩
  · rw [if_neg hm]
    refine ⟨(ho.kept k5).set hn ha 1 (by omega) _ (by simp [took, hm, solidC]), But.setCell (But.of k5) (by simp) (by simp) _⟩
/-- Bounds of a push and of what it leaves. -/
theorem jOf_bd' {a b : BodyD} {bo : Int} (ha : BodyP a) (hb : BodyP b) (hbo : 0 ≤ bo ∧ bo ≤ 100) : 0 ≤ jOf a b bo ∧ jOf a b bo ≤ 4800000000 := by
  obtain ⟨⟨h1, h2⟩, h3, h4⟩ := stop_bd ha hb
  unfold jOf
  split
  · omega
  · rename_i h
    have hs : 0 < (stop a b).1 := by omega
    have k0 : 0 ≤ (100 + bo) * (stop a b).1 := Int.mul_nonneg (by omega) (by omega)
    have k1 : (100 + bo) * (stop a b).1 ≤ 200 * 24000000 := Int.le_trans (Int.mul_le_mul_of_nonneg_right (show 100 + bo ≤ 200 by omega) (by omega)) (Int.mul_le_mul_of_nonneg_left h2 (by omega))
    have k2 : 0 ≤ ((100 + bo) * (stop a b).1).tdiv (100 * (stop a b).2) := Int.tdiv_nonneg k0 (by omega)
    have k3 := Int.tdiv_le_self (100 * (stop a b).2) k0
    omega
set_option maxHeartbeats 8000000 in
theorem ipair (ps : List BodyD) (i O lo hi g n cap c : Nat) (x p m r y q k s bo : Int) (w : World) (ho : SolidO w lo hi (.slice (some ⟨g, 0, none⟩) n cap) ps) (hn : n = ps.length) (hO : O = i * 4) (ha : ps[i]? = some (x, p, m, r)) (hb : ps[i + 1]? = some (y, q, k, s)) (pa : BodyP (x, p, m, r)) (pb : BodyP (y, q, k, s)) (hbo : 0 ≤ bo ∧ bo ≤ 100) :
    Calls Try.prog 75 #[.slice (some ⟨g, O, none⟩) 2 c, .int .i64 bo] w fun e w' => e = .returned (.bool (decide (InP (pairM (x, p, m, r) (y, q, k, s) bo).1 ∧ InP (pairM (x, p, m, r) (y, q, k, s) bo).2))) ∧ SolidO w' lo hi (.slice (some ⟨g, 0, none⟩) n cap) (pushAt ps i bo) ∧ But g (g + 1) w w' := by
  obtain ⟨a0, a1, a2, a3, zf⟩ := ho.cells ha
  obtain ⟨a4, a5, a6, a7, _⟩ := ho.cells hb
  rw [show (i + 1) * 4 = O + 4 by omega] at a4 a5 a6 a7
  rw [← hO] at a0 a1 a2 a3
  dsimp only at a0 a1 a2 a3 a4 a5 a6 a7
  rw [show O + 4 + 1 = O + 5 by omega] at a5
  rw [show O + 4 + 2 = O + 6 by omega] at a6
  rw [show O + 4 + 3 = O + 7 by omega] at a7
  have z1 := zf (O + 1)
  have z5 := zf (O + 5)
  have hg := cell_lt a0
  obtain ⟨⟨t1, t2⟩, t3, t4⟩ := stop_bd pa pb
  obtain ⟨j1, j2⟩ := jOf_bd' pa pb hbo
  obtain ⟨⟨x1, x2⟩, ⟨p1, p2⟩, ⟨m1, m2⟩, _, ⟨r1, r2⟩⟩ := id pa
  obtain ⟨⟨y1, y2⟩, ⟨q1, q2⟩, ⟨k1', k2'⟩, _, ⟨s1, s2⟩⟩ := id pb
  dsimp only at x1 x2 p1 p2 m1 m2 r1 r2 y1 y2 q1 q2 k1' k2' s1 s2
  have hx9 : -4000000000 ≤ x ∧ x ≤ 4000000000 := by omega
  have hr9 : 0 ≤ r ∧ r ≤ 1000 := by omega
  have hy9 : -4000000000 ≤ y ∧ y ≤ 4000000000 := by omega
  have hs9 : 0 ≤ s ∧ s ≤ 1000 := by omega
  have HO : Hid (SolidO w lo hi (.slice (some ⟨g, 0, none⟩) n cap) ps) := ho
  have HPA : Hid (BodyP (x, p, m, r)) := pa
  have HPB : Hid (BodyP (y, q, k, s)) := pb
  have HE : Hid (O = i * 4) := hO
  have HA : Hid (ps[i]? = some (x, p, m, r)) := ha
  have HB : Hid (ps[i + 1]? = some (y, q, k, s)) := hb
  have hst := fun W => istop x p m r y q k s W pa pb
  have hjo : jOf (x, p, m, r) (y, q, k, s) bo = if x + r < y - s ∨ (stop (x, p, m, r) (y, q, k, s)).1 ≤ 0 then 0 else ((100 + bo) * (stop (x, p, m, r) (y, q, k, s)).1).tdiv (100 * (stop (x, p, m, r) (y, q, k, s)).2) := rfl
  obtain ⟨⟨sn, sd⟩, hS⟩ : ∃ z, stop (x, p, m, r) (y, q, k, s) = z := ⟨_, rfl⟩
  rw [hS] at hst t1 t2 t3 t4 hjo
  dsimp only at hst t1 t2 t3 t4 hjo
  have HST : Hid (∀ W : World, Calls Try.prog 110 #[.agg #[.int .i64 x, .int .i64 p, .int .i64 m], .agg #[.int .i64 y, .int .i64 q, .int .i64 k]] W fun e w' => e = .returned (.agg #[.int .i64 sn, .int .i64 sd]) ∧ Kept W w') := hst
  obtain ⟨J, hJ⟩ : ∃ z, jOf (x, p, m, r) (y, q, k, s) bo = z := ⟨_, rfl⟩
  obtain ⟨P1, hP1⟩ : ∃ z, took (x, p, m, r) (-J) = (x, z, m, r) := ⟨_, rfl⟩
  obtain ⟨P2, hP2⟩ : ∃ z, took (y, q, k, s) J = (y, z, k, s) := ⟨_, rfl⟩
  have T1 : Hid (took (x, p, m, r) (-J) = (x, P1, m, r)) := hP1
  have T2 : Hid (took (y, q, k, s) J = (y, P2, k, s)) := hP2
  clear hP1 hP2
  rw [hJ] at j1 j2 hjo
  have HJ : Hid (jOf (x, p, m, r) (y, q, k, s) bo = J) := hJ
  clear ho pa pb hO ha hb hst hS zf hJ
  by_cases hc : x + r < y - s ∨ sn ≤ 0
  · rw [if_pos hc] at hjo
    subst hjo
    have HN : Hid (pushAt ps i bo = ps ∧ decide (InP (pairM (x, p, m, r) (y, q, k, s) bo).1 ∧ InP (pairM (x, p, m, r) (y, q, k, s) bo).2) = true) := by
      have q1 : (pairM (x, p, m, r) (y, q, k, s) bo).1 = (x, p, m, r) := by rw [pairM, HJ.out]; exact took_zero _
      have q2 : (pairM (x, p, m, r) (y, q, k, s) bo).2 = (y, q, k, s) := by rw [pairM, HJ.out]; exact took_zero _
      refine ⟨?_, ?_⟩
      · rw [pushAt_some HA.out HB.out, q1, q2]
        obtain ⟨h1, h2⟩ := List.getElem?_eq_some_iff.1 HA.out
        obtain ⟨h3, h4⟩ := List.getElem?_eq_some_iff.1 HB.out
        rw [show ps.set i (x, p, m, r) = ps by rw [← h2, List.set_getElem_self], ← h4, List.set_getElem_self]
      · rw [q1, q2]
        exact decide_eq_true ⟨HPA.out.2.1, HPB.out.2.1⟩
    have hc2 : decide (x + r < y - s) = true ∨ decide (x + r < y - s) = false ∧ decide (sn ≤ 0) = true := by
      by_cases h : x + r < y - s
      · exact Or.inl (decide_eq_true h)
      · exact Or.inr ⟨decide_eq_false h, decide_eq_true (by omega)⟩
    clear hc T1 T2
    rcases hc2 with d1 | ⟨d1, d2⟩
    all_goals
      go_enter Try.func75, Try.ntmps75
      repeat (first | go_values | go_skip | go_guarded | go_step | go_upon)
      refine wp_region_kept (by kernel_rfl) (by kernel_rfl) ?_
      have hcc := KW.cell_eq w
      repeat (go_big_quiet_step (fail))
      refine wpQuiet_nil ?_
      rintro w1 ⟨⟨w8, k9⟩, h9⟩
      change w1 = w8 at h9
      subst h9
      have a0 := Kept.cell k9 a0; have a1 := Kept.cell k9 a1; have a2 := Kept.cell k9 a2; have a3 := Kept.cell k9 a3; have a4 := Kept.cell k9 a4; have a5 := Kept.cell k9 a5; have a6 := Kept.cell k9 a6; have a7 := Kept.cell k9 a7; have z1 := (Kept.frozen_eq k9 _ (O + 1) hg).trans z1; have z5 := (Kept.frozen_eq k9 _ (O + 5) hg).trans z5
      have hg : g < w1.heap.size := cell_lt a0
      have HKw1 : Hid (Kept w w1) := k9
      clear hcc k9
      repeat (first | go_values | go_skip | go_guarded | go_step | go_upon)
      go_region_held3 (fun w' => w'.cell? ⟨g, O, none⟩ = some (.int .i64 x) ∧ w'.cell? ⟨g, O + 1, none⟩ = some (.int .i64 p) ∧ w'.cell? ⟨g, O + 2, none⟩ = some (.int .i64 m) ∧ w'.cell? ⟨g, O + 4, none⟩ = some (.int .i64 y) ∧ w'.cell? ⟨g, O + 5, none⟩ = some (.int .i64 q) ∧ w'.cell? ⟨g, O + 6, none⟩ = some (.int .i64 k)) (first | exact ⟨Kept.cell kw2 a0, Kept.cell kw2 a1, Kept.cell kw2 a2, Kept.cell kw2 a4, Kept.cell kw2 a5, Kept.cell kw2 a6⟩ | (simp [go_sem, *]; done))
        (first | (go_at_call 110; refine (HST.out _).mono ?_; rintro e w2 ⟨rfl, k2⟩; have hc2 := k2.cell_eq; have hf2 := k2.frozen_eq; have hz2 := k2.size; (try simp at hz2); have hg2 : g < w2.heap.size := (by omega); have kw2 : Kept w1 w2 := (by refine But.trans ?_ k2; (repeat (first | with_reducible exact But.refl _ _ _ | with_reducible apply But.drewN | with_reducible apply But.drew | with_reducible apply But.alloc)))); have b0 := Kept.cell kw2 a0; have b1 := Kept.cell kw2 a1; have b2 := Kept.cell kw2 a2; have b3 := Kept.cell kw2 a3; have b4 := Kept.cell kw2 a4; have b5 := Kept.cell kw2 a5; have b6 := Kept.cell kw2 a6; have b7 := Kept.cell kw2 a7; have y1' := (Kept.frozen_eq kw2 _ (O + 1) hg).trans z1; have y5' := (Kept.frozen_eq kw2 _ (O + 5) hg).trans z5; have hng : ¬ g = w1.heap.size := (by omega); have hng' : ¬ w1.heap.size = g := (by omega))
      · refine forgetX (fun W' => W'.cell? ⟨g, O, none⟩ = some (.int .i64 x) ∧ W'.cell? ⟨g, O + 1, none⟩ = some (.int .i64 p) ∧ W'.cell? ⟨g, O + 2, none⟩ = some (.int .i64 m) ∧ W'.cell? ⟨g, O + 3, none⟩ = some (.int .i64 r) ∧ W'.cell? ⟨g, O + 4, none⟩ = some (.int .i64 y) ∧ W'.cell? ⟨g, O + 5, none⟩ = some (.int .i64 q) ∧ W'.cell? ⟨g, O + 6, none⟩ = some (.int .i64 k) ∧ W'.cell? ⟨g, O + 7, none⟩ = some (.int .i64 s) ∧ W'.frozen? ⟨g, O + 1, none⟩ = false ∧ W'.frozen? ⟨g, O + 5, none⟩ = false ∧ W'.cell? ⟨w2.heap.size, 0, none⟩ = some (.int .i64 sn) ∧ W'.cell? ⟨w2.heap.size, 1, none⟩ = some (.int .i64 sd) ∧ g < w2.heap.size ∧ Kept w W') ⟨by simp [go_sem, *], by simp [go_sem, *], by simp [go_sem, *], by simp [go_sem, *], by simp [go_sem, *], by simp [go_sem, *], by simp [go_sem, *], by simp [go_sem, *], by simp [go_sem, *], by simp [go_sem, *], by simp [go_sem, *], by simp [go_sem, *], hg2, HKw1.out.trans ((kw2.alloc _))⟩ ?_
        clear a0 a1 a2 a3 a4 a5 a6 a7 z1 z5 b0 b1 b2 b3 b4 b5 b6 b7 y1' y5' hc2 hf2 hz2 k2 hng hng'
        rintro W1 ⟨a0, a1, a2, a3, a4, a5, a6, a7, z1, z5, s0, s1, hgl, hkW⟩
        generalize w2.heap.size = g1 at s0 s1 hgl ⊢
        have HKW : Hid (Kept w W1) := hkW
        clear kw2 hg2 HKw1 hkW
        have hg := cell_lt a0
        have hg1 := cell_lt s0
        repeat (first | go_values | go_skip | go_guarded | go_step | go_upon)
        refine wp_region_kept (by kernel_rfl) (by kernel_rfl) ?_
        have hcc := KW.cell_eq W1
        repeat (go_big_quiet_step (first | (go_at_call 87; exact kw_call (iright _ _ _ _ _ hx9 hr9)) | (go_at_call 88; exact kw_call (ileft _ _ _ _ _ hy9 hs9))))
        refine wpQuiet_nil ?_
        rintro w3 ⟨⟨w8, k9⟩, h9⟩
        change w3 = w8 at h9
        subst h9
        have a0 := Kept.cell k9 a0; have a1 := Kept.cell k9 a1; have a2 := Kept.cell k9 a2; have a3 := Kept.cell k9 a3; have a4 := Kept.cell k9 a4; have a5 := Kept.cell k9 a5; have a6 := Kept.cell k9 a6; have a7 := Kept.cell k9 a7; have z1 := (Kept.frozen_eq k9 _ (O + 1) hg).trans z1; have z5 := (Kept.frozen_eq k9 _ (O + 5) hg).trans z5
        have hg : g < w3.heap.size := cell_lt a0
        have HKw3 : Hid (Kept w w3) := HKW.out.trans k9
        have s0 := Kept.cell k9 s0; have s1 := Kept.cell k9 s1; have hg1 := cell_lt s0
        clear hcc k9
        repeat (first | go_values | go_skip | go_guarded | go_step | go_upon)
        go_ret
        exact ⟨ret_boolG HN.out.2.symm, by rw [HN.out.1]; exact HO.out.kept HKw3.out, But.of HKw3.out⟩
      · refine forgetX (fun W' => W'.cell? ⟨g, O, none⟩ = some (.int .i64 x) ∧ W'.cell? ⟨g, O + 1, none⟩ = some (.int .i64 p) ∧ W'.cell? ⟨g, O + 2, none⟩ = some (.int .i64 m) ∧ W'.cell? ⟨g, O + 3, none⟩ = some (.int .i64 r) ∧ W'.cell? ⟨g, O + 4, none⟩ = some (.int .i64 y) ∧ W'.cell? ⟨g, O + 5, none⟩ = some (.int .i64 q) ∧ W'.cell? ⟨g, O + 6, none⟩ = some (.int .i64 k) ∧ W'.cell? ⟨g, O + 7, none⟩ = some (.int .i64 s) ∧ W'.frozen? ⟨g, O + 1, none⟩ = false ∧ W'.frozen? ⟨g, O + 5, none⟩ = false ∧ W'.cell? ⟨w1.heap.size, 0, none⟩ = some (.int .i64 sn) ∧ W'.cell? ⟨w1.heap.size, 1, none⟩ = some (.int .i64 sd) ∧ g < w1.heap.size ∧ Kept w W') ⟨by simp [go_sem, *], by simp [go_sem, *], by simp [go_sem, *], by simp [go_sem, *], by simp [go_sem, *], by simp [go_sem, *], by simp [go_sem, *], by simp [go_sem, *], by simp [go_sem, *], by simp [go_sem, *], by simp [go_sem, *], by simp [go_sem, *], hg, HKw1.out.trans ((kw2.setNew (Nat.le_refl _) _).setNew (Nat.le_refl _) _)⟩ ?_
        clear a0 a1 a2 a3 a4 a5 a6 a7 z1 z5 b0 b1 b2 b3 b4 b5 b6 b7 y1' y5' hc2 hf2 hz2 k2 hng hng'
        rintro W1 ⟨a0, a1, a2, a3, a4, a5, a6, a7, z1, z5, s0, s1, hgl, hkW⟩
        generalize w1.heap.size = g1 at s0 s1 hgl ⊢
        have HKW : Hid (Kept w W1) := hkW
        clear kw2 hg2 HKw1 hkW
        have hg := cell_lt a0
        have hg1 := cell_lt s0
        repeat (first | go_values | go_skip | go_guarded | go_step | go_upon)
        refine wp_region_kept (by kernel_rfl) (by kernel_rfl) ?_
        have hcc := KW.cell_eq W1
        repeat (go_big_quiet_step (first | (go_at_call 87; exact kw_call (iright _ _ _ _ _ hx9 hr9)) | (go_at_call 88; exact kw_call (ileft _ _ _ _ _ hy9 hs9))))
        refine wpQuiet_nil ?_
        rintro w3 ⟨⟨w8, k9⟩, h9⟩
        change w3 = w8 at h9
        subst h9
        have a0 := Kept.cell k9 a0; have a1 := Kept.cell k9 a1; have a2 := Kept.cell k9 a2; have a3 := Kept.cell k9 a3; have a4 := Kept.cell k9 a4; have a5 := Kept.cell k9 a5; have a6 := Kept.cell k9 a6; have a7 := Kept.cell k9 a7; have z1 := (Kept.frozen_eq k9 _ (O + 1) hg).trans z1; have z5 := (Kept.frozen_eq k9 _ (O + 5) hg).trans z5
        have hg : g < w3.heap.size := cell_lt a0
        have HKw3 : Hid (Kept w w3) := HKW.out.trans k9
        have s0 := Kept.cell k9 s0; have s1 := Kept.cell k9 s1; have hg1 := cell_lt s0
        clear hcc k9
        repeat (first | go_values | go_skip | go_guarded | go_step | go_upon)
        go_ret
        exact ⟨ret_boolG HN.out.2.symm, by rw [HN.out.1]; exact HO.out.kept HKw3.out, But.of HKw3.out⟩
  · rw [if_neg hc] at hjo
    have d1 : decide (x + r < y - s) = false := decide_eq_false (fun h => hc (Or.inl h))
    have d2 : decide (sn ≤ 0) = false := decide_eq_false (fun h => hc (Or.inr h))
    have k0 : 0 ≤ (100 + bo) * sn := Int.mul_nonneg (by omega) (by omega)
    have k1 : (100 + bo) * sn ≤ 200 * 24000000 := Int.le_trans (Int.mul_le_mul_of_nonneg_right (show 100 + bo ≤ 200 by omega) (by omega)) (Int.mul_le_mul_of_nonneg_left t2 (by omega))
    rw [Int.tdiv_eq_ediv_of_nonneg k0] at hjo
    have i1 : IntKind.i64.wrap ((100 + bo) * sn) = (100 + bo) * sn := IntWalk.i64_in _ (by omega)
    have i2 : IntKind.i64.wrap (100 * sd) = 100 * sd := IntWalk.i64_in _ (by omega)
    have i3 : (100 * sd == 0) = false := by simp; omega
    have i4 : (100 + bo) * sn / (100 * sd) = J := hjo.symm
    have i5 : ((100 + bo) * sn).tdiv (100 * sd) = J := by rw [Int.tdiv_eq_ediv_of_nonneg k0]; exact hjo.symm
    have i6 : ¬ (100 * sd = 0) := by omega
    have i7 : IntKind.i64.wrap J = J := IntWalk.i64_in _ (by omega)
    have i8 : IntKind.i64.wrap (-J) = -J := IntWalk.i64_in _ (by omega)
    clear hc hjo
    go_enter Try.func75, Try.ntmps75
    repeat (first | go_values | go_skip | go_guarded | go_step | go_upon)
    refine wp_region_kept (by kernel_rfl) (by kernel_rfl) ?_
    have hcc := KW.cell_eq w
    repeat (go_big_quiet_step (fail))
    refine wpQuiet_nil ?_
    rintro w1 ⟨⟨w8, k9⟩, h9⟩
    change w1 = w8 at h9
    subst h9
    have a0 := Kept.cell k9 a0; have a1 := Kept.cell k9 a1; have a2 := Kept.cell k9 a2; have a3 := Kept.cell k9 a3; have a4 := Kept.cell k9 a4; have a5 := Kept.cell k9 a5; have a6 := Kept.cell k9 a6; have a7 := Kept.cell k9 a7; have z1 := (Kept.frozen_eq k9 _ (O + 1) hg).trans z1; have z5 := (Kept.frozen_eq k9 _ (O + 5) hg).trans z5
    have hg : g < w1.heap.size := cell_lt a0
    have HKw1 : Hid (Kept w w1) := k9
    clear hcc k9
    repeat (first | go_values | go_skip | go_guarded | go_step | go_upon)
    go_region_held3 (fun w' => w'.cell? ⟨g, O, none⟩ = some (.int .i64 x) ∧ w'.cell? ⟨g, O + 1, none⟩ = some (.int .i64 p) ∧ w'.cell? ⟨g, O + 2, none⟩ = some (.int .i64 m) ∧ w'.cell? ⟨g, O + 4, none⟩ = some (.int .i64 y) ∧ w'.cell? ⟨g, O + 5, none⟩ = some (.int .i64 q) ∧ w'.cell? ⟨g, O + 6, none⟩ = some (.int .i64 k)) (first | exact ⟨Kept.cell kw2 a0, Kept.cell kw2 a1, Kept.cell kw2 a2, Kept.cell kw2 a4, Kept.cell kw2 a5, Kept.cell kw2 a6⟩ | (simp [go_sem, *]; done))
      (first | (go_at_call 110; refine (HST.out _).mono ?_; rintro e w2 ⟨rfl, k2⟩; have hc2 := k2.cell_eq; have hf2 := k2.frozen_eq; have hz2 := k2.size; (try simp at hz2); have hg2 : g < w2.heap.size := (by omega); have kw2 : Kept w1 w2 := (by refine But.trans ?_ k2; (repeat (first | with_reducible exact But.refl _ _ _ | with_reducible apply But.drewN | with_reducible apply But.drew | with_reducible apply But.alloc)))); have b0 := Kept.cell kw2 a0; have b1 := Kept.cell kw2 a1; have b2 := Kept.cell kw2 a2; have b3 := Kept.cell kw2 a3; have b4 := Kept.cell kw2 a4; have b5 := Kept.cell kw2 a5; have b6 := Kept.cell kw2 a6; have b7 := Kept.cell kw2 a7; have y1' := (Kept.frozen_eq kw2 _ (O + 1) hg).trans z1; have y5' := (Kept.frozen_eq kw2 _ (O + 5) hg).trans z5; have hng : ¬ g = w1.heap.size := (by omega); have hng' : ¬ w1.heap.size = g := (by omega))
    · refine forgetX (fun W' => W'.cell? ⟨g, O, none⟩ = some (.int .i64 x) ∧ W'.cell? ⟨g, O + 1, none⟩ = some (.int .i64 p) ∧ W'.cell? ⟨g, O + 2, none⟩ = some (.int .i64 m) ∧ W'.cell? ⟨g, O + 3, none⟩ = some (.int .i64 r) ∧ W'.cell? ⟨g, O + 4, none⟩ = some (.int .i64 y) ∧ W'.cell? ⟨g, O + 5, none⟩ = some (.int .i64 q) ∧ W'.cell? ⟨g, O + 6, none⟩ = some (.int .i64 k) ∧ W'.cell? ⟨g, O + 7, none⟩ = some (.int .i64 s) ∧ W'.frozen? ⟨g, O + 1, none⟩ = false ∧ W'.frozen? ⟨g, O + 5, none⟩ = false ∧ W'.cell? ⟨w2.heap.size, 0, none⟩ = some (.int .i64 sn) ∧ W'.cell? ⟨w2.heap.size, 1, none⟩ = some (.int .i64 sd) ∧ g < w2.heap.size ∧ Kept w W') ⟨by simp [go_sem, *], by simp [go_sem, *], by simp [go_sem, *], by simp [go_sem, *], by simp [go_sem, *], by simp [go_sem, *], by simp [go_sem, *], by simp [go_sem, *], by simp [go_sem, *], by simp [go_sem, *], by simp [go_sem, *], by simp [go_sem, *], hg2, HKw1.out.trans ((kw2.alloc _))⟩ ?_
      clear a0 a1 a2 a3 a4 a5 a6 a7 z1 z5 b0 b1 b2 b3 b4 b5 b6 b7 y1' y5' hc2 hf2 hz2 k2 hng hng'
      rintro W1 ⟨a0, a1, a2, a3, a4, a5, a6, a7, z1, z5, s0, s1, hgl, hkW⟩
      generalize w2.heap.size = g1 at s0 s1 hgl ⊢
      have HKW : Hid (Kept w W1) := hkW
      clear kw2 hg2 HKw1 hkW
      have hg := cell_lt a0
      have hg1 := cell_lt s0
      repeat (first | go_values | go_skip | go_guarded | go_step | go_upon)
      refine wp_region_kept (by kernel_rfl) (by kernel_rfl) ?_
      have hcc := KW.cell_eq W1
      repeat (go_big_quiet_step (first | (go_at_call 87; exact kw_call (iright _ _ _ _ _ hx9 hr9)) | (go_at_call 88; exact kw_call (ileft _ _ _ _ _ hy9 hs9))))
      refine wpQuiet_nil ?_
      rintro w3 ⟨⟨w8, k9⟩, h9⟩
      change w3 = w8 at h9
      subst h9
      have a0 := Kept.cell k9 a0; have a1 := Kept.cell k9 a1; have a2 := Kept.cell k9 a2; have a3 := Kept.cell k9 a3; have a4 := Kept.cell k9 a4; have a5 := Kept.cell k9 a5; have a6 := Kept.cell k9 a6; have a7 := Kept.cell k9 a7; have z1 := (Kept.frozen_eq k9 _ (O + 1) hg).trans z1; have z5 := (Kept.frozen_eq k9 _ (O + 5) hg).trans z5
      have hg : g < w3.heap.size := cell_lt a0
      have HKw3 : Hid (Kept w w3) := HKW.out.trans k9
      have s0 := Kept.cell k9 s0; have s1 := Kept.cell k9 s1; have hg1 := cell_lt s0
      clear hcc k9
      repeat (first | go_values | go_skip | go_guarded | go_step | go_upon)
      go_at_call 111
      refine (itakeR ps i O lo hi g n cap x p m r (-J) w3 (HO.out.kept HKw3.out) hn HE.out HA.out (by omega)).mono ?_
      rintro e w4 ⟨rfl, o4, kb4⟩
      rw [T1.out] at o4
      have HB4 : Hid (But g (g + 1) w w4) := (But.of HKw3.out).trans kb4
      have g4 : (ps.set i (x, P1, m, r))[i + 1]? = some (y, q, k, s) := by rw [List.getElem?_set_ne (by omega)]; exact HB.out
      have HO4 : Hid (SolidO w4 lo hi (.slice (some ⟨g, 0, none⟩) n cap) (ps.set i (x, P1, m, r))) := o4
      have HG4 : Hid ((ps.set i (x, P1, m, r))[i + 1]? = some (y, q, k, s)) := g4
      clear o4 kb4 g4 a0 a1 a2 a3 a4 a5 a6 a7 z1 z5 s0 s1
      dsimp only
      repeat (first | go_values | go_skip | go_guarded | go_step | go_upon)
      go_at_call 111
      refine (itakeR (ps.set i (x, P1, m, r)) (i + 1) (O + 4) lo hi g n cap y q k s J w4 HO4.out (by rw [List.length_set]; exact hn) (by have := HE.out; omega) HG4.out (by omega)).mono ?_
      rintro e w5 ⟨rfl, o5, kb5⟩
      rw [T2.out] at o5
      have HB5 : Hid (But g (g + 1) w w5) := HB4.out.trans kb5
      have HO5 : Hid (SolidO w5 lo hi (.slice (some ⟨g, 0, none⟩) n cap) ((ps.set i (x, P1, m, r)).set (i + 1) (y, P2, k, s))) := o5
      obtain ⟨_, v1, _, _, _⟩ := o5.cells (i := i) (p := (x, P1, m, r)) (by rw [List.getElem?_set_ne (by omega), List.getElem?_set_self (List.getElem?_eq_some_iff.1 HA.out).1])
      obtain ⟨_, v2, _, _, _⟩ := o5.cells (i := i + 1) (p := (y, P2, k, s)) (by rw [List.getElem?_set_self (by rw [List.length_set]; exact (List.getElem?_eq_some_iff.1 HB.out).1)])
      rw [← HE.out] at v1
      rw [show (i + 1) * 4 + 1 = O + 5 by have := HE.out; omega] at v2
      dsimp only at v1 v2
      have hg5 := cell_lt v1
      clear o5 kb5
      dsimp only
      have q1 : (pairM (x, p, m, r) (y, q, k, s) bo).1 = (x, P1, m, r) := by rw [pairM, HJ.out]; exact T1.out
      have q2 : (pairM (x, p, m, r) (y, q, k, s) bo).2 = (y, P2, k, s) := by rw [pairM, HJ.out]; exact T2.out
      have HR : Hid (decide (InP (pairM (x, p, m, r) (y, q, k, s) bo).1 ∧ InP (pairM (x, p, m, r) (y, q, k, s) bo).2) = (decide (-1000000 ≤ P1 ∧ P1 ≤ 1000000) && decide (-1000000 ≤ P2 ∧ P2 ≤ 1000000))) := by
        show _ = _
        rw [q1, q2, Bool.decide_and]; rfl
      have HQ : Hid (pushAt ps i bo = (ps.set i (x, P1, m, r)).set (i + 1) (y, P2, k, s)) := by
        show _ = _
        rw [pushAt_some HA.out HB.out, q1, q2]
      clear q1 q2
      cases e1 : decide (-1000000 ≤ P1 ∧ P1 ≤ 1000000) <;> cases e2 : decide (-1000000 ≤ P2 ∧ P2 ≤ 1000000)
      all_goals
        repeat (first | (go_at_call 112; refine (igoodPush _ _).mono ?_; (first | rw [e1] | rw [e2]); rintro e w' ⟨rfl, rfl⟩; dsimp only) | go_values | go_skip | go_guarded | go_step | go_upon)
        go_ret
        exact ⟨ret_boolG (by rw [HR.out, e1, e2]; rfl), by rw [HQ.out]; exact HO5.out, HB5.out⟩
    · refine forgetX (fun W' => W'.cell? ⟨g, O, none⟩ = some (.int .i64 x) ∧ W'.cell? ⟨g, O + 1, none⟩ = some (.int .i64 p) ∧ W'.cell? ⟨g, O + 2, none⟩ = some (.int .i64 m) ∧ W'.cell? ⟨g, O + 3, none⟩ = some (.int .i64 r) ∧ W'.cell? ⟨g, O + 4, none⟩ = some (.int .i64 y) ∧ W'.cell? ⟨g, O + 5, none⟩ = some (.int .i64 q) ∧ W'.cell? ⟨g, O + 6, none⟩ = some (.int .i64 k) ∧ W'.cell? ⟨g, O + 7, none⟩ = some (.int .i64 s) ∧ W'.frozen? ⟨g, O + 1, none⟩ = false ∧ W'.frozen? ⟨g, O + 5, none⟩ = false ∧ W'.cell? ⟨w1.heap.size, 0, none⟩ = some (.int .i64 sn) ∧ W'.cell? ⟨w1.heap.size, 1, none⟩ = some (.int .i64 sd) ∧ g < w1.heap.size ∧ Kept w W') ⟨by simp [go_sem, *], by simp [go_sem, *], by simp [go_sem, *], by simp [go_sem, *], by simp [go_sem, *], by simp [go_sem, *], by simp [go_sem, *], by simp [go_sem, *], by simp [go_sem, *], by simp [go_sem, *], by simp [go_sem, *], by simp [go_sem, *], hg, HKw1.out.trans ((kw2.setNew (Nat.le_refl _) _).setNew (Nat.le_refl _) _)⟩ ?_
      clear a0 a1 a2 a3 a4 a5 a6 a7 z1 z5 b0 b1 b2 b3 b4 b5 b6 b7 y1' y5' hc2 hf2 hz2 k2 hng hng'
      rintro W1 ⟨a0, a1, a2, a3, a4, a5, a6, a7, z1, z5, s0, s1, hgl, hkW⟩
      generalize w1.heap.size = g1 at s0 s1 hgl ⊢
      have HKW : Hid (Kept w W1) := hkW
      clear kw2 hg2 HKw1 hkW
      have hg := cell_lt a0
      have hg1 := cell_lt s0
      repeat (first | go_values | go_skip | go_guarded | go_step | go_upon)
      refine wp_region_kept (by kernel_rfl) (by kernel_rfl) ?_
      have hcc := KW.cell_eq W1
      repeat (go_big_quiet_step (first | (go_at_call 87; exact kw_call (iright _ _ _ _ _ hx9 hr9)) | (go_at_call 88; exact kw_call (ileft _ _ _ _ _ hy9 hs9))))
      refine wpQuiet_nil ?_
      rintro w3 ⟨⟨w8, k9⟩, h9⟩
      change w3 = w8 at h9
      subst h9
      have a0 := Kept.cell k9 a0; have a1 := Kept.cell k9 a1; have a2 := Kept.cell k9 a2; have a3 := Kept.cell k9 a3; have a4 := Kept.cell k9 a4; have a5 := Kept.cell k9 a5; have a6 := Kept.cell k9 a6; have a7 := Kept.cell k9 a7; have z1 := (Kept.frozen_eq k9 _ (O + 1) hg).trans z1; have z5 := (Kept.frozen_eq k9 _ (O + 5) hg).trans z5
      have hg : g < w3.heap.size := cell_lt a0
      have HKw3 : Hid (Kept w w3) := HKW.out.trans k9
      have s0 := Kept.cell k9 s0; have s1 := Kept.cell k9 s1; have hg1 := cell_lt s0
      clear hcc k9
      repeat (first | go_values | go_skip | go_guarded | go_step | go_upon)
      go_at_call 111
      refine (itakeR ps i O lo hi g n cap x p m r (-J) w3 (HO.out.kept HKw3.out) hn HE.out HA.out (by omega)).mono ?_
      rintro e w4 ⟨rfl, o4, kb4⟩
      rw [T1.out] at o4
      have HB4 : Hid (But g (g + 1) w w4) := (But.of HKw3.out).trans kb4
      have g4 : (ps.set i (x, P1, m, r))[i + 1]? = some (y, q, k, s) := by rw [List.getElem?_set_ne (by omega)]; exact HB.out
      have HO4 : Hid (SolidO w4 lo hi (.slice (some ⟨g, 0, none⟩) n cap) (ps.set i (x, P1, m, r))) := o4
      have HG4 : Hid ((ps.set i (x, P1, m, r))[i + 1]? = some (y, q, k, s)) := g4
      clear o4 kb4 g4 a0 a1 a2 a3 a4 a5 a6 a7 z1 z5 s0 s1
      dsimp only
      repeat (first | go_values | go_skip | go_guarded | go_step | go_upon)
      go_at_call 111
      refine (itakeR (ps.set i (x, P1, m, r)) (i + 1) (O + 4) lo hi g n cap y q k s J w4 HO4.out (by rw [List.length_set]; exact hn) (by have := HE.out; omega) HG4.out (by omega)).mono ?_
      rintro e w5 ⟨rfl, o5, kb5⟩
      rw [T2.out] at o5
      have HB5 : Hid (But g (g + 1) w w5) := HB4.out.trans kb5
      have HO5 : Hid (SolidO w5 lo hi (.slice (some ⟨g, 0, none⟩) n cap) ((ps.set i (x, P1, m, r)).set (i + 1) (y, P2, k, s))) := o5
      obtain ⟨_, v1, _, _, _⟩ := o5.cells (i := i) (p := (x, P1, m, r)) (by rw [List.getElem?_set_ne (by omega), List.getElem?_set_self (List.getElem?_eq_some_iff.1 HA.out).1])
      obtain ⟨_, v2, _, _, _⟩ := o5.cells (i := i + 1) (p := (y, P2, k, s)) (by rw [List.getElem?_set_self (by rw [List.length_set]; exact (List.getElem?_eq_some_iff.1 HB.out).1)])
      rw [← HE.out] at v1
      rw [show (i + 1) * 4 + 1 = O + 5 by have := HE.out; omega] at v2
      dsimp only at v1 v2
      have hg5 := cell_lt v1
      clear o5 kb5
      dsimp only
      have q1 : (pairM (x, p, m, r) (y, q, k, s) bo).1 = (x, P1, m, r) := by rw [pairM, HJ.out]; exact T1.out
      have q2 : (pairM (x, p, m, r) (y, q, k, s) bo).2 = (y, P2, k, s) := by rw [pairM, HJ.out]; exact T2.out
      have HR : Hid (decide (InP (pairM (x, p, m, r) (y, q, k, s) bo).1 ∧ InP (pairM (x, p, m, r) (y, q, k, s) bo).2) = (decide (-1000000 ≤ P1 ∧ P1 ≤ 1000000) && decide (-1000000 ≤ P2 ∧ P2 ≤ 1000000))) := by
        show _ = _
        rw [q1, q2, Bool.decide_and]; rfl
      have HQ : Hid (pushAt ps i bo = (ps.set i (x, P1, m, r)).set (i + 1) (y, P2, k, s)) := by
        show _ = _
        rw [pushAt_some HA.out HB.out, q1, q2]
      clear q1 q2
      cases e1 : decide (-1000000 ≤ P1 ∧ P1 ≤ 1000000) <;> cases e2 : decide (-1000000 ≤ P2 ∧ P2 ≤ 1000000)
      all_goals
        repeat (first | (go_at_call 112; refine (igoodPush _ _).mono ?_; (first | rw [e1] | rw [e2]); rintro e w' ⟨rfl, rfl⟩; dsimp only) | go_values | go_skip | go_guarded | go_step | go_upon)
        go_ret
        exact ⟨ret_boolG (by rw [HR.out, e1, e2]; rfl), by rw [HQ.out]; exact HO5.out, HB5.out⟩

end Go.Proofs.Ythpjjpgahmkpdaa
