/-
  The walk of the law of a block's quads.
-/
import Derived.Test.YtnfkgnbhdhpnmaaQuadF13
namespace Go.Proofs.Ytnfkgnbhdhpnmaa
open Go.ChangeShapes Go.WideShapes Go.ChangeAt Go.RowKit
set_option maxRecDepth 100000
set_option linter.unusedVariables false

set_option maxHeartbeats 16000000 in
theorem walk (ao : Option Addr) (len cap : Nat) (w : World) (hc : Code w ao len) (hl : len ≤ 1048576) :
    Calls Try.prog 3 #[.slice ao len cap] w fun e w' => e = .returned (.bool true) ∧ Kept w w' := by
  have hd0 : decide ((1048576 : Int) < (len : Int)) = false := by simp; omega
  go_enter Try.func3, Try.ntmps3
  repeat (first | go_values | go_skip | go_guarded | go_step | go_upon)
  go_at_call 11
  refine (drawq_ok ao len cap _ hc hl).mono ?_
  rintro e u1 ⟨x, y, z, l, v, rfl, hll, hv, k1⟩
  replace hv := hv.at
  obtain ⟨ao5, c5, hfm⟩ := row_nil hv
  subst hfm
  have HV : Hid (NumAt u1 (.slice ao5 l.length c5) l ∧ Kept w u1) := ⟨hv, k1⟩
  clear hv k1 hd0 hl
  dsimp only
  repeat (first | go_values | go_skip | go_guarded | go_step | go_upon)
  go_at_call 12
  refine (iquads x y z l ao5 c5 _ (HV.out.1.kept ((But.refl _ _ _).alloc _)) (by omega)).mono ?_
  rintro e u2 ⟨vq, rfl, oq, k2⟩
  have L2 := (Loc.new u1 [.int .i64 x, .int .i64 y, .int .i64 z, .slice ao5 l.length c5] 25).kept k2
  have K2 : Kept u1 u2 := ((But.refl _ _ _).alloc _).trans k2
  obtain ⟨aq, cq, hfm⟩ := oq.form
  subst hfm
  have hcq := capQ oq
  have HQ : Hid (QuadAt u2 (.slice aq (quadsA x y z l).1.length cq) (quadsA x y z l).1) := oq.at
  have HL2 : Hid (Loc u2 u1.heap.size [.int .i64 x, .int .i64 y, .int .i64 z, .slice ao5 l.length c5]) := L2
  have HK2 : Hid (Kept u1 u2) := K2
  have v0 := L2.cell 0 rfl
  have v1 := L2.cell 1 rfl
  have v2 := L2.cell 2 rfl
  have v3 := L2.cell 3 rfl
  have vl := L2.lt
  clear oq k2 L2 K2
  dsimp only
  repeat (first | go_values | go_skip | go_guarded | go_step | go_upon)
  go_at_call 13
  refine (ifaces x y z l ao5 c5 _ (HV.out.1.kept HK2.out) (by omega)).mono ?_
  rintro e u3 ⟨vf, rfl, of, k3⟩
  obtain ⟨af, cf, hfm⟩ := of.form
  subst hfm
  have HF : Hid (NumAt u3 (.slice af (facesA x y z l).1.length cf) (facesA x y z l).1) := of.at
  have HK3 : Hid (Kept u1 u3) := HK2.out.trans k3
  have HL3 : Hid (Loc u3 u1.heap.size [.int .i64 x, .int .i64 y, .int .i64 z, .slice ao5 l.length c5]) := HL2.out.kept k3
  have HQ3 : Hid (QuadAt u3 (.slice aq (quadsA x y z l).1.length cq) (quadsA x y z l).1) := RowAt.kept HQ.out k3
  clear v0 v1 v2 v3 vl of k3 HQ HK2 HL2
  have v0 := HL3.out.cell 0 rfl
  have v1 := HL3.out.cell 1 rfl
  have v2 := HL3.out.cell 2 rfl
  have v3 := HL3.out.cell 3 rfl
  have vl := HL3.out.lt
  dsimp only
  repeat (first | go_values | go_skip | go_guarded | go_step | go_upon)
  go_at_call 14
  refine (sfaces x y z l ao5 c5 _ (HV.out.1.kept HK3.out) (by omega)).mono ?_
  rintro e u4 ⟨vs, rfl, -, k4⟩
  have HF4 : Hid (NumAt u4 (.slice af (facesA x y z l).1.length cf) (facesA x y z l).1) := HF.out.kept k4
  have HK4 : Hid (Kept w u4) := (HV.out.2.trans HK3.out).trans k4
  have HQ4 : Hid (QuadAt u4 (.slice aq (quadsA x y z l).1.length cq) (quadsA x y z l).1) := RowAt.kept HQ3.out k4
  clear v0 v1 v2 v3 vl k4 HQ3 HK3 HL3 HF HV
  by_cases hg : BlocksP x y z l
  · have HX := qfacts hg
    rw [show quadsA x y z l = (quadsL x.toNat y.toNat z.toNat l 6, true) from if_pos hg] at HQ4 hcq ⊢
    rw [show facesA x y z l = (rowF fun wy => cnt x y z l wy l.length, true) from if_pos hg] at HF4 ⊢
    dsimp only at HQ4 HF4 hcq ⊢
    rw [rowF_len] at HF4 ⊢
    obtain ⟨Q, hQ⟩ : ∃ Q, quadsL x.toNat y.toNat z.toNat l 6 = Q := ⟨_, rfl⟩
    rw [hQ] at HQ4 HX hcq ⊢
    clear hQ hg
    have hQl := HX.len
    have HQF : Hid (QFacts x y z l Q) := HX
    clear HX
    obtain ⟨i0, hi, hz0, hz1, hz2⟩ := info_parts info_num
    have hmk : ∀ W : World, (Instr.makeSlice 23 (.int .i64 6) (.int .i64 6)).run Try.prog W = .ok (.slice (some ⟨W.heap.size, 0, none⟩) 6 6) (W.alloc (.cells (madeCells #[.int .i64 0] (6 * 1)) 3)) := fun W => by
      have := run_make (P := Try.prog) W 23 3 i0 _ Try.underlying23 hi hz0 .i64 .i64 (6 : Int) (6 : Int) (by omega) (by omega) (by rw [hz2]; omega) (by omega)
      rw [this, hz1]
      simp [Value.cells]
    have HM : Hid (∀ W : World, NumO (W.alloc (.cells (madeCells #[.int .i64 0] (6 * 1)) 3)) W.heap.size (W.heap.size + 1) (.slice (some ⟨W.heap.size, 0, none⟩) 6 6) (rowF fun wy => 0)) := by
      show ∀ W : World, NumO _ _ _ _ _
      intro W
      have := row_made W W.heap.size 3 #[.int .i64 0] 1 (by omega) numC num0 numC_len rfl 6 (Nat.le_refl _) (by unfold maxLen; omega)
      unfold NumO
      rw [rowF_len, rowF_zero]
      exact this
    clear hi hz0 hz1 hz2
    repeat (first | go_values | go_skip | go_guarded | go_step | go_upon)
    have HA : Hid (NumO (u4.alloc (.cells (madeCells #[.int .i64 0] (6 * 1)) 3)) u4.heap.size (u4.heap.size + 1) (.slice (some ⟨u4.heap.size, 0, none⟩) 6 6) (rowF fun wy => 0)) := HM.out u4
    clear HM hmk
    obtain ⟨gA, hgA⟩ : ∃ g, u4.heap.size = g := ⟨_, rfl⟩
    rw [hgA] at HA ⊢
    have HgA : Hid (u4.heap.size = gA) := hgA
    clear hgA
    go_loopw [56] (fun i wr => ∃ k : Nat, k ≤ Q.length ∧ i = .int .i64 k ∧ Hid (NumO wr gA (gA + 1) (.slice (some ⟨gA, 0, none⟩) 6 6) (rowF fun wy => areaW wy (Q.take k))) ∧ Hid (Kept u4 wr)) (fun i _ => Q.length - (intOf i).toNat)
    case atStart =>
      refine ⟨0, by omega, rfl, ?_, (But.refl _ _ _).alloc _⟩
      have h := HA.out
      rw [rowF_ext (g := fun _ => 0) (fun j hj => by simp [areaW])]
      exact h
    case round =>
      obtain ⟨k, hk, rfl, HO, HK⟩ := hrel
      clear HA
      by_cases hlt : k < Q.length
      · obtain ⟨q, hq⟩ : ∃ q, Q[k]? = some q := ⟨_, List.getElem?_eq_getElem hlt⟩
        obtain ⟨q0, q1, q2, q3, q4, q5, q6⟩ := q
        obtain ⟨way, hw6, hok⟩ := HQF.out.all _ (List.mem_of_getElem? hq)
        obtain ⟨r0, r1, r2, r3, r4, r5, r6, r7⟩ := hok
        dsimp only at r0 r1 r2 r3 r4 r5 r6 r7
        subst r0
        obtain ⟨b, o, cap', e, c0, c1, c2, c3, c4, c5', c6⟩ := quad_get (RowAt.kept HQ4.out HK.out) hq
        cases e
        dsimp only at c0 c1 c2 c3 c4 c5' c6
        have HQK : Hid (Q[k]? = some ((way : Int), q1, q2, q3, q4, q5, q6)) := hq
        have z1 : (0 : Int) ≤ (k : Int) := by omega
        have z2 : (k : Int) < (Q.length : Int) := by omega
        have e1 : decide ((way : Int) < 0) = false := decide_eq_false (by omega)
        have e2 : decide ((5 : Int) < (way : Int)) = false := by simp; omega
        have e3 : decide (q4 < 1) = false := by simp; omega
        have e4 : decide (q5 < 1) = false := by simp; omega
        have e5 : decide (q6 < 1) = false := by simp; omega
        have hAin := HQF.out.inn k way
        obtain ⟨d0, dz⟩ := HO.out.cells (rowF_get _ hw6)
        have dz0 := dz way
        obtain ⟨a0, ha0⟩ : ∃ a, areaW way (Q.take k) = a := ⟨_, rfl⟩
        have HA0 : Hid (areaW way (Q.take k) = a0) := ha0
        rw [ha0] at hAin
        have d0' : wr.cell? ⟨gA, way, none⟩ = some (.int .i64 a0) := by rw [d0, ← ha0]
        clear d0 dz ha0 hq
        obtain ⟨P, hP⟩ : ∃ p, q4 * q5 = p := ⟨_, rfl⟩
        have hP64 : 0 ≤ P ∧ P ≤ 64 := by
          rw [← hP]
          exact ⟨Int.mul_nonneg (by omega) (by omega), Int.le_trans (Int.mul_le_mul_of_nonneg_right (show q4 ≤ 8 by omega) (by omega)) (by omega)⟩
        have hm1 : IntKind.i64.wrap (q4 * q5) = P := by rw [hP, IntWalk.i64_in _ (by omega)]
        obtain ⟨SS, hS⟩ : ∃ p, a0 + P = p := ⟨_, rfl⟩
        have hm2 : IntKind.i64.wrap (a0 + P) = SS := by rw [hS, IntWalk.i64_in _ (by omega)]
        have hwP : IntKind.i64.wrap P = P := by rw [IntWalk.i64_in _ (by omega)]
        have hwS : IntKind.i64.wrap SS = SS := by rw [IntWalk.i64_in _ (by omega)]
        have HPS : Hid (q4 * q5 = P ∧ a0 + P = SS) := ⟨hP, hS⟩
        have HR : Hid (1 ≤ q4 ∧ 1 ≤ q5 ∧ 0 ≤ q2 ∧ 0 ≤ q3 ∧ q2 + q4 ≤ 8 ∧ q3 + q5 ≤ 8) := ⟨r3, r4, r1, r2, r6, r7⟩
        clear r1 r2 r3 r4 r5 r6 r7
        obtain ⟨BQ, hBQ⟩ : ∃ g, wr.heap.size = g := ⟨_, rfl⟩
        have hgB : gA < BQ := by have h1 := block_of_cell d0'; rw [hBQ] at h1; exact h1
        have HBQ : Hid (wr.heap.size = BQ) := hBQ
        have hne1 : BQ ≠ gA := by omega
        have hne2 : gA ≠ BQ := by omega
        have y3 : (0 : Int) ≤ (way : Int) := by omega
        have y4 : (way : Int) < (6 : Int) := by omega
        repeat (first | go_values | go_skip | go_guarded | go_step | go_upon)
        have KD : Kept wr ((wr.alloc (.cells #[.int .i64 (way : Int), .int .i64 q1, .int .i64 q2, .int .i64 q3, .int .i64 q4, .int .i64 q5, .int .i64 q6] 33)).drew) := ((But.refl _ _ _).alloc _).drew
        have LN : Loc ((wr.alloc (.cells #[.int .i64 (way : Int), .int .i64 q1, .int .i64 q2, .int .i64 q3, .int .i64 q4, .int .i64 q5, .int .i64 q6] 33)).drew) BQ [.int .i64 (way : Int), .int .i64 q1, .int .i64 q2, .int .i64 q3, .int .i64 q4, .int .i64 q5, .int .i64 q6] := by rw [← HBQ.out]; exact (Loc.new wr [.int .i64 (way : Int), .int .i64 q1, .int .i64 q2, .int .i64 q3, .int .i64 q4, .int .i64 q5, .int .i64 q6] 33).kept (But.refl _ _ _).drew
        have HON := HO.out.kept KD
        obtain ⟨WD, hWD⟩ : ∃ W, (wr.alloc (.cells #[.int .i64 (way : Int), .int .i64 q1, .int .i64 q2, .int .i64 q3, .int .i64 q4, .int .i64 q5, .int .i64 q6] 33)).drew = W := ⟨_, rfl⟩
        have hS9 : (fun w' => w'.cell? ⟨BQ, 0, none⟩ = some (.int .i64 (way : Int)) ∧ w'.cell? ⟨BQ, 4, none⟩ = some (.int .i64 q4) ∧ w'.cell? ⟨BQ, 5, none⟩ = some (.int .i64 q5) ∧ w'.cell? ⟨gA, way, none⟩ = some (.int .i64 a0)) WD := by rw [← hWD]; exact ⟨LN.cell 0 rfl, LN.cell 4 rfl, LN.cell 5 rfl, Kept.cell KD d0'⟩
        rw [hWD] at KD LN HON
        have q0' : WD.cell? ⟨gA, way, none⟩ = some (.int .i64 a0) := hS9.2.2.2
        have qf : WD.frozen? ⟨gA, way, none⟩ = false := (HON.cells (rowF_get _ hw6)).2 way
        have HKD : Hid (Kept wr WD) := KD
        have HLN : Hid (Loc WD BQ [.int .i64 (way : Int), .int .i64 q1, .int .i64 q2, .int .i64 q3, .int .i64 q4, .int .i64 q5, .int .i64 q6]) := LN
        have HOD : Hid (NumO WD gA (gA + 1) (.slice (some ⟨gA, 0, none⟩) 6 6) (rowF fun wy => areaW wy (Q.take k))) := HON
        clear KD LN HON d0' dz0 HO c0 c1 c2 c3 c4 c5' c6
        refine wp_region_Z (fun w' => w'.cell? ⟨BQ, 0, none⟩ = some (.int .i64 (way : Int)) ∧ w'.cell? ⟨BQ, 4, none⟩ = some (.int .i64 q4) ∧ w'.cell? ⟨BQ, 5, none⟩ = some (.int .i64 q5) ∧ w'.cell? ⟨gA, way, none⟩ = some (.int .i64 a0)) 12 (by kernel_rfl) ?_
        (try rw [hWD])
        clear hWD
        refine wpAnyZ_take (i := 0) (v := .slice (some ⟨gA, 0, none⟩) 6 6) rfl (by kernel_rfl) (by kernel_rfl) (by kernel_rfl) (by kernel_rfl) (fun _ _ _ h => h) (Or.inl ⟨by rfl, ?_⟩) hS9 ?_
        · intro w' hSw; obtain ⟨s0, s1, s2, s3⟩ := hSw; go_simp
        try simp only [Act.put]
        refine wpAnyZ_take (i := 1) (v := .pointer (some ⟨BQ, 0, none⟩)) rfl (by kernel_rfl) (by kernel_rfl) (by kernel_rfl) (by kernel_rfl) (fun _ _ _ h => h) (Or.inl ⟨by rfl, ?_⟩) hS9 ?_
        · intro w' hSw; obtain ⟨s0, s1, s2, s3⟩ := hSw; go_simp
        try simp only [Act.put]
        refine wpAnyZ_take (i := 2) (v := .int .i64 (way : Int)) rfl (by kernel_rfl) (by kernel_rfl) (by kernel_rfl) (by kernel_rfl) (fun _ _ _ h => h) (Or.inl ⟨by rfl, ?_⟩) hS9 ?_
        · intro w' hSw; obtain ⟨s0, s1, s2, s3⟩ := hSw; go_simp
        try simp only [Act.put]
        refine wpAnyZ_take (i := 3) (v := .pointer (some ⟨gA, way, none⟩)) rfl (by kernel_rfl) (by kernel_rfl) (by kernel_rfl) (by kernel_rfl) (fun _ _ _ h => h) (Or.inl ⟨by rfl, ?_⟩) hS9 ?_
        · intro w' hSw; obtain ⟨s0, s1, s2, s3⟩ := hSw; go_simp
        try simp only [Act.put]
        refine wpAnyZ_take (i := 4) (v := .int .i64 a0) rfl (by kernel_rfl) (by kernel_rfl) (by kernel_rfl) (by kernel_rfl) (fun _ _ _ h => h) (Or.inl ⟨by rfl, ?_⟩) hS9 ?_
        · intro w' hSw; obtain ⟨s0, s1, s2, s3⟩ := hSw; go_simp
        try simp only [Act.put]
        refine wpAnyZ_take (i := 5) (v := .pointer (some ⟨BQ, 4, none⟩)) rfl (by kernel_rfl) (by kernel_rfl) (by kernel_rfl) (by kernel_rfl) (fun _ _ _ h => h) (Or.inl ⟨by rfl, ?_⟩) hS9 ?_
        · intro w' hSw; obtain ⟨s0, s1, s2, s3⟩ := hSw; go_simp
        try simp only [Act.put]
        refine wpAnyZ_take (i := 6) (v := .int .i64 q4) rfl (by kernel_rfl) (by kernel_rfl) (by kernel_rfl) (by kernel_rfl) (fun _ _ _ h => h) (Or.inl ⟨by rfl, ?_⟩) hS9 ?_
        · intro w' hSw; obtain ⟨s0, s1, s2, s3⟩ := hSw; go_simp
        try simp only [Act.put]
        refine wpAnyZ_take (i := 7) (v := .pointer (some ⟨BQ, 5, none⟩)) rfl (by kernel_rfl) (by kernel_rfl) (by kernel_rfl) (by kernel_rfl) (fun _ _ _ h => h) (Or.inl ⟨by rfl, ?_⟩) hS9 ?_
        · intro w' hSw; obtain ⟨s0, s1, s2, s3⟩ := hSw; go_simp
        try simp only [Act.put]
        refine wpAnyZ_take (i := 8) (v := .int .i64 q5) rfl (by kernel_rfl) (by kernel_rfl) (by kernel_rfl) (by kernel_rfl) (fun _ _ _ h => h) (Or.inl ⟨by rfl, ?_⟩) hS9 ?_
        · intro w' hSw; obtain ⟨s0, s1, s2, s3⟩ := hSw; go_simp
        try simp only [Act.put]
        refine wpAnyZ_take (i := 9) (v := .int .i64 P) rfl (by kernel_rfl) (by kernel_rfl) (by kernel_rfl) (by kernel_rfl) (fun _ _ _ h => h) (Or.inl ⟨by rfl, ?_⟩) hS9 ?_
        · intro w' hSw; obtain ⟨s0, s1, s2, s3⟩ := hSw; go_simp
        try simp only [Act.put]
        refine wpAnyZ_take (i := 10) (v := .int .i64 SS) rfl (by kernel_rfl) (by kernel_rfl) (by kernel_rfl) (by kernel_rfl) (fun _ _ _ h => h) (Or.inl ⟨by rfl, ?_⟩) hS9 ?_
        · intro w' hSw; obtain ⟨s0, s1, s2, s3⟩ := hSw; go_simp
        try simp only [Act.put]
        refine wpAnyZ_take (i := 11) (v := .pointer (some ⟨gA, way, none⟩)) rfl (by kernel_rfl) (by kernel_rfl) (by kernel_rfl) (by kernel_rfl) (fun _ _ _ h => h) (Or.inl ⟨by rfl, ?_⟩) hS9 ?_
        · intro w' hSw; obtain ⟨s0, s1, s2, s3⟩ := hSw; go_simp
        try simp only [Act.put]
        refine wpAnyZ_one (i := 12) (by kernel_rfl) rfl ?_
        intro K8 hK8
        rw [if_pos (by rfl)]
        go_simp
        refine hK8.out _ _ (fun h => absurd rfl h) ?_
        clear hK8 K8
        refine wpAnyZ_done (by kernel_rfl) ?_ _
        try simp only [Act.put]

        have kb9 : But gA (gA + 1) WD (WD.setCell ⟨gA, way, none⟩ (.int .i64 SS)) := (But.refl _ _ _).setCell (by simp) (by simp) _
        have hset : NumO (WD.setCell ⟨gA, way, none⟩ (.int .i64 SS)) gA (gA + 1) (.slice (some ⟨gA, 0, none⟩) 6 6) (rowF fun wy => areaW wy (Q.take (k + 1))) := by
          have h := HOD.out.set (rowF_len _).symm (rowF_get _ hw6) SS
          rw [rowF_set _ _ hw6] at h
          rw [rowF_ext (g := fun i => if i = way then SS else (fun wy => areaW wy (Q.take k)) i) (fun i hi => by
            dsimp only
            rw [take_snoc HQK.out, areaW_snoc]
            by_cases e : i = way
            · subst e
              rw [if_pos rfl, if_pos rfl, HA0.out, ← HPS.out.2, ← HPS.out.1]
            · rw [if_neg e, if_neg (by intro h; exact e (by dsimp only at h; omega))]
              omega)]
          exact h
        have HE : Hid (NumO (WD.setCell ⟨gA, way, none⟩ (.int .i64 SS)) gA (gA + 1) (.slice (some ⟨gA, 0, none⟩) 6 6) (rowF fun wy => areaW wy (Q.take (k + 1))) ∧ Kept u4 (WD.setCell ⟨gA, way, none⟩ (.int .i64 SS)) ∧ Loc (WD.setCell ⟨gA, way, none⟩ (.int .i64 SS)) BQ [.int .i64 (way : Int), .int .i64 q1, .int .i64 q2, .int .i64 q3, .int .i64 q4, .int .i64 q5, .int .i64 q6]) :=
          ⟨hset, (HK.out.trans HKD.out).setNew (by have := HgA.out; simp; omega) _, HLN.out.but kb9 (.inr (by omega))⟩
        clear hset kb9 hS9 q0' qf HOD HLN HKD HK hm1 hm2 hwP hwS e1 e2 e3 e4 e5
        have hsl : ∀ W, (Instr.slice 27 (.slice (some ⟨b, o, none⟩) Q.length cq) none (some (.int .i64 (k : Int))) none).run Try.prog W = .ok (.slice (some ⟨b, o, none⟩) k cq) W := fun W => by
          rw [slice_to W _ _ _ k (by omega), sliced_to]
        repeat (first | go_values | go_skip | go_guarded | go_step | go_upon)
        refine forgetC2 (fun u => NumO u gA (gA + 1) (.slice (some ⟨gA, 0, none⟩) 6 6) (rowF fun wy => areaW wy (Q.take (k + 1))) ∧ Kept u4 u ∧ Loc u BQ [.int .i64 (way : Int), .int .i64 q1, .int .i64 q2, .int .i64 q3, .int .i64 q4, .int .i64 q5, .int .i64 q6]) HE.out ?_
        rintro WF ⟨hWF1, hWF2, hWF3⟩
        have HE2 : Hid (NumO WF gA (gA + 1) (.slice (some ⟨gA, 0, none⟩) 6 6) (rowF fun wy => areaW wy (Q.take (k + 1))) ∧ Kept u4 WF ∧ Loc WF BQ [.int .i64 (way : Int), .int .i64 q1, .int .i64 q2, .int .i64 q3, .int .i64 q4, .int .i64 q5, .int .i64 q6]) := ⟨hWF1, hWF2, hWF3⟩
        clear hWF1 hWF2 hWF3 HE hsl
        obtain ⟨t1, t2, t3, t4, t5, t6⟩ := HR.out
        have s1 : IntKind.i64.wrap (q2 + q4) = q2 + q4 := by rw [IntWalk.i64_in _ (by omega)]
        have s2 : IntKind.i64.wrap (q3 + q5) = q3 + q5 := by rw [IntWalk.i64_in _ (by omega)]
        clear t1 t2 t3 t4 t5 t6
        go_loopw [100] (fun i wr => ∃ m : Nat, m ≤ k ∧ i = .int .i64 m ∧ Kept WF wr) (fun i _ => k - (intOf i).toNat)
        case atStart => exact ⟨0, by omega, rfl, But.refl _ _ _⟩
        case round =>
          obtain ⟨m, hm, rfl, hkp⟩ := hrel
          by_cases hlm : m < k
          · obtain ⟨p, hp⟩ : ∃ q, Q[m]? = some q := ⟨_, List.getElem?_eq_getElem (by omega)⟩
            obtain ⟨p0, p1, p2, p3, p4, p5, p6⟩ := p
            have hfr := HQF.out.apart hlm hp HQK.out
            obtain ⟨way', hw6', hok⟩ := HQF.out.all _ (List.mem_of_getElem? hp)
            obtain ⟨r0, r1, r2, r3, r4, r5, r6, r7⟩ := hok
            dsimp only at r0 r1 r2 r3 r4 r5 r6 r7
            have s3 : IntKind.i64.wrap (p2 + p4) = p2 + p4 := by rw [IntWalk.i64_in _ (by omega)]
            have s4 : IntKind.i64.wrap (p3 + p5) = p3 + p5 := by rw [IntWalk.i64_in _ (by omega)]
            unfold Free Meet at hfr
            dsimp only at hfr
            obtain ⟨b', o', cap', e, c0, c1, c2, c3, c4, c5', c6⟩ := quad_get (RowAt.kept HQ4.out (HE2.out.2.1.trans hkp)) hp
            cases e
            dsimp only at c0 c1 c2 c3 c4 c5' c6
            have LQ := HE2.out.2.2.kept hkp
            have g0 := LQ.cell 0 rfl
            have g1 := LQ.cell 1 rfl
            have g2 := LQ.cell 2 rfl
            have g3 := LQ.cell 3 rfl
            have g4 := LQ.cell 4 rfl
            have g5 := LQ.cell 5 rfl
            have gl := LQ.lt
            have HKP : Hid (Kept WF wr) := hkp
            have x1 : (0 : Int) ≤ (m : Int) := by omega
            have x2 : (m : Int) < (k : Int) := by omega
            clear r0 r1 r2 r3 r4 r5 r6 r7 hp LQ hkp hw6'
            have hdone : ∀ u, Kept wr u → (∃ m' : Nat, m' ≤ k ∧ Value.int .i64 ((m : Int) + 1) = .int .i64 (m' : Int) ∧ Kept WF u) := fun u ku => ⟨m + 1, hlm, by simp, HKP.out.trans ku⟩
            have HD : Hid _ := hdone
            clear hdone
            by_cases h0 : p0 = (way : Int)
            rotate_left
            · have f0 : (p0 == (way : Int)) = false := by simp [h0]
              clear hfr h0
              repeat (first | go_values | go_skip | go_guarded | go_step | go_upon)
              exact ⟨⟨m + 1, hlm, by go_num, HKP.out.alloc _⟩, by simp [intOf]; omega⟩
            have f0 : (p0 == (way : Int)) = true := by simp [h0]
            by_cases h1 : p1 = q1
            rotate_left
            · have f1 : (p1 == q1) = false := by simp [h1]
              clear hfr h0 h1
              repeat (first | go_values | go_skip | go_guarded | go_step | go_upon)
              exact ⟨⟨m + 1, hlm, by go_num, HKP.out.alloc _⟩, by simp [intOf]; omega⟩
            have f1 : (p1 == q1) = true := by simp [h1]
            by_cases h2 : p2 < q2 + q4
            rotate_left
            · have f2 : decide (p2 < q2 + q4) = false := decide_eq_false h2
              clear hfr h0 h1 h2
              repeat (first | go_values | go_skip | go_guarded | go_step | go_upon)
              exact ⟨⟨m + 1, hlm, by go_num, HKP.out.alloc _⟩, by simp [intOf]; omega⟩
            have f2 : decide (p2 < q2 + q4) = true := decide_eq_true h2
            by_cases h3 : q2 < p2 + p4
            rotate_left
            · have f3 : decide (q2 < p2 + p4) = false := decide_eq_false h3
              clear hfr h0 h1 h2 h3
              repeat (first | go_values | go_skip | go_guarded | go_step | go_upon)
              exact ⟨⟨m + 1, hlm, by go_num, HKP.out.alloc _⟩, by simp [intOf]; omega⟩
            have f3 : decide (q2 < p2 + p4) = true := decide_eq_true h3
            by_cases h4 : p3 < q3 + q5
            rotate_left
            · have f4 : decide (p3 < q3 + q5) = false := decide_eq_false h4
              clear hfr h0 h1 h2 h3 h4
              repeat (first | go_values | go_skip | go_guarded | go_step | go_upon)
              exact ⟨⟨m + 1, hlm, by go_num, HKP.out.alloc _⟩, by simp [intOf]; omega⟩
            have f4 : decide (p3 < q3 + q5) = true := decide_eq_true h4
            by_cases h5 : q3 < p3 + p5
            rotate_left
            · have f5 : decide (q3 < p3 + p5) = false := decide_eq_false h5
              clear hfr h0 h1 h2 h3 h4 h5
              repeat (first | go_values | go_skip | go_guarded | go_step | go_upon)
              exact ⟨⟨m + 1, hlm, by go_num, HKP.out.alloc _⟩, by simp [intOf]; omega⟩
            exact absurd ⟨h2, h3, h4, h5⟩ (hfr h0 h1)
          · have hme : m = k := by omega
            subst hme
            have HKP : Hid (Kept WF wr) := hkp
            clear hkp
            repeat (first | go_values | go_skip | go_guarded | go_step | go_upon)
            exact ⟨⟨m + 1, hlt, by go_num, HE2.out.1.kept HKP.out, HE2.out.2.1.trans HKP.out⟩, by simp [intOf]; omega⟩
      · have hke : k = Q.length := by omega
        subst hke
        have hrow : (rowF fun wy => areaW wy (Q.take Q.length)) = rowF fun wy => cnt x y z l wy l.length := by
          rw [List.take_length]
          exact rowF_ext (fun j hj => HQF.out.area j hj)
        have HO2 : Hid (NumAt wr (.slice (some ⟨gA, 0, none⟩) 6 6) (rowF fun wy => cnt x y z l wy l.length)) := by
          show NumAt _ _ _
          rw [← hrow]; exact HO.out.at
        clear hrow HO
        repeat (first | go_values | go_skip | go_guarded | go_step | go_upon)
        go_at_call 15
        refine (sameI _ _ _ _ HO2.out (HF4.out.kept HK.out) (by rw [rowF_len]; omega)).mono ?_
        rintro e u9 ⟨rfl, k9⟩
        dsimp only
        repeat (first | go_values | go_skip | go_guarded | go_step | go_upon)
        go_ret
        exact ⟨rfl, (HK4.out.trans HK.out).trans k9⟩
  · rw [show quadsA x y z l = ([], false) from if_neg hg, show facesA x y z l = ([], false) from if_neg hg]
    dsimp only [List.length_nil]
    repeat (first | go_values | go_skip | go_guarded | go_step | go_upon)
    go_ret
    exact ⟨rfl, HK4.out⟩

end Go.Proofs.Ytnfkgnbhdhpnmaa
