/-
  The walk of the law of a drawn field's filling.
-/
import Derived.Test.YtopakblckajdmaaSame14
import Derived.Test.YtopakblckajdmaaQuiet
import Derived.Test.YtopakblckajdmaaZed14
import Derived.Deep.RegionHeld3
namespace Go.Proofs.Ytopakblckajdmaa
open Go.ChangeShapes Go.WideShapes Go.ChangeAt Go.RowKit

set_option maxRecDepth 100000
set_option linter.unusedVariables false
set_option maxHeartbeats 16000000 in
theorem walk (aoc : Option Addr) (len capc : Nat) (w : World) (h : Code w aoc len) (hl : len ≤ 1048576) :
    Calls Try.prog 3 #[.slice aoc len capc] w fun e w' => e = .returned (.bool true) ∧ Kept w w' := by
  have hd0 : decide ((1048576 : Int) < (len : Int)) = false := by simp; omega
  go_enter Try.func3, Try.ntmps3
  repeat (first | go_values | go_skip | go_guarded | go_step | go_upon)
  go_at_call 11
  refine (drawf_ok aoc len capc _ h hl).mono ?_
  rintro e u1 ⟨r, f, rv, fv, rfl, hR, hcost, hF, hfl, k1⟩
  obtain ⟨ra1, rc1, ra2, rc2, hfm⟩ := hR.form
  subst hfm
  obtain ⟨ao, cap, hfm⟩ := hF.form
  subst hfm
  dsimp only
  clear hd0 h
  have HR : Hid (RulesAt u1 (.agg #[.int .i64 r.1, .slice ra1 r.2.1.length rc1, .slice ra2 r.2.2.length rc2]) r) := hR
  have HF : Hid (FieldAt u1 (.agg #[.int .i64 f.1, .int .i64 f.2.1, .slice ao f.2.2.length cap]) f) := hF
  have HK1 : Hid (Kept w u1) := k1
  clear hR hF k1
  obtain ⟨⟨X, jb⟩, hX⟩ : ∃ q, fillA r f = q := ⟨_, rfl⟩
  have HX : Hid (fillA r f = (X, jb)) := hX
  clear hX
  obtain ⟨xb, ⟨xw, xh, XT⟩, xt⟩ := X
  have s1' := HK1.out.size
  repeat (first | go_values | go_skip | go_guarded | go_step | go_upon)
  go_at_call 12
  refine (ifillF _ _ r f _ (HR.out.kept (((But.refl _ _ _).alloc _).alloc _)) (HF.out.kept (((But.refl _ _ _).alloc _).alloc _)) (by omega) (by omega)).mono ?_
  rintro e u2 ⟨v2, rfl, ⟨sx, rfl, og⟩, k2⟩
  rw [HX.out] at og ⊢
  dsimp only at og ⊢
  obtain ⟨ag, cg, hfm⟩ := og.form
  subst hfm
  have s2' := k2.size
  simp only [World.size_alloc] at s2' og
  have j2 : Kept u1 u2 := (((But.refl _ _ _).alloc _).alloc _).trans k2
  have Lr : Loc u2 u1.heap.size [.int .i64 r.1, .slice ra1 r.2.1.length rc1, .slice ra2 r.2.2.length rc2] := ((Loc.new u1 [.int .i64 r.1, .slice ra1 r.2.1.length rc1, .slice ra2 r.2.2.length rc2] 25).alloc _).kept k2
  have Lf : Loc u2 (u1.heap.size + 1) [.int .i64 f.1, .int .i64 f.2.1, .slice ao f.2.2.length cap] := by
    have := (Loc.new (u1.alloc (.cells #[.int .i64 r.1, .slice ra1 r.2.1.length rc1, .slice ra2 r.2.2.length rc2] 25)) [.int .i64 f.1, .int .i64 f.2.1, .slice ao f.2.2.length cap] 28).kept k2
    simpa using this
  have HR : Hid (RulesAt u2 (.agg #[.int .i64 r.1, .slice ra1 r.2.1.length rc1, .slice ra2 r.2.2.length rc2]) r) := HR.out.kept j2
  have HF : Hid (FieldAt u2 (.agg #[.int .i64 f.1, .int .i64 f.2.1, .slice ao f.2.2.length cap]) f) := HF.out.kept j2
  have HK2 : Hid (Kept w u2) := HK1.out.trans j2
  clear k2 j2 HK1
  have a0 := Lr.cell 0 rfl
  have a1 := Lr.cell 1 rfl
  have a2 := Lr.cell 2 rfl
  have al := Lr.lt
  have b0 := Lf.cell 0 rfl
  have b1 := Lf.cell 1 rfl
  have b2 := Lf.cell 2 rfl
  have bl := Lf.lt
  repeat (first | go_values | go_skip | go_guarded | go_step | go_upon)
  go_at_call 13
  refine (sfillF _ _ r f _ (HR.out.kept ((But.refl _ _ _).alloc _)) (HF.out.kept ((But.refl _ _ _).alloc _)) (by omega) (by omega)).mono ?_
  rintro e u3 ⟨v3, rfl, ⟨sw, rfl, ow⟩, k3⟩
  rw [HX.out] at ow ⊢
  dsimp only at ow ⊢
  obtain ⟨aw, cw, hfm⟩ := ow.form
  subst hfm
  have s3' := k3.size
  simp only [World.size_alloc] at s3'
  have j3 : Kept u2 u3 := ((But.refl _ _ u2).alloc _).trans k3
  have Lr := Lr.kept j3
  have Lf := Lf.kept j3
  have Lx := (Loc.new u2 [.bool xb, .int .i64 xw, .int .i64 xh, .slice ag XT.length cg, .int .i64 xt] 32).kept k3
  have og := og.kept j3
  have HR : Hid (RulesAt u3 (.agg #[.int .i64 r.1, .slice ra1 r.2.1.length rc1, .slice ra2 r.2.2.length rc2]) r) := HR.out.kept j3
  have HF : Hid (FieldAt u3 (.agg #[.int .i64 f.1, .int .i64 f.2.1, .slice ao f.2.2.length cap]) f) := HF.out.kept j3
  have HK3 : Hid (Kept w u3) := HK2.out.trans j3
  clear k3 j3 HK2 ow a0 a1 a2 al b0 b1 b2 bl
  have x0 := Lx.cell 0 rfl
  have x1 := Lx.cell 1 rfl
  have x2 := Lx.cell 2 rfl
  have x3 := Lx.cell 3 rfl
  have x4 := Lx.cell 4 rfl
  have xl := Lx.lt
  have HOG : Hid (NumAt u3 (.slice ag XT.length cg) XT) := og.at
  have HLr : Hid (Loc u3 u1.heap.size [.int .i64 r.1, .slice ra1 r.2.1.length rc1, .slice ra2 r.2.2.length rc2]) := Lr
  have HLf : Hid (Loc u3 (u1.heap.size + 1) [.int .i64 f.1, .int .i64 f.2.1, .slice ao f.2.2.length cap]) := Lf
  have HLx : Hid (Loc u3 u2.heap.size [.bool xb, .int .i64 xw, .int .i64 xh, .slice ag XT.length cg, .int .i64 xt]) := Lx
  clear og Lr Lf Lx
  obtain ⟨BX, hBX⟩ : ∃ q, u2.heap.size = q := ⟨_, rfl⟩
  obtain ⟨BR, hBR⟩ : ∃ q, u1.heap.size = q := ⟨_, rfl⟩
  have hBB : BR + 1 < BX := by omega
  rw [hBX] at HLx x0 x1 x2 x3 x4 xl s3' ⊢
  rw [hBR] at HLr HLf ⊢
  clear hBX hBR s2' s1'
  cases jb with
  | false =>
    repeat (first | go_values | go_skip | go_guarded | go_step | go_upon)
    go_ret
    exact ⟨rfl, by (repeat (first | with_reducible exact HK3.out | with_reducible apply But.drewN | with_reducible apply But.drew | with_reducible apply But.alloc | (with_reducible refine But.setNew ?_ (by simp; try omega) _)))⟩
  | true =>
    have hg : GoodP r f := by
      by_cases hg : GoodP r f
      · exact hg
      · have := fillA_bad hg
        rw [HX.out] at this
        cases this
    have hfx := fillX hg
    rw [HX.out] at hfx
    have HG : Hid (GoodP r f) := hg
    have HFX : Hid (FillX r f (xb, (xw, xh, XT), xt)) := hfx
    have h36 : f.2.2.length ≤ 36 := good_len hg
    obtain ⟨sN, hsN⟩ : ∃ n : Nat, r.1 = (n : Int) := ⟨r.1.toNat, by have := hg.1.1; omega⟩
    have hs6 : 1 ≤ sN ∧ sN ≤ 6 := by have := hg.1.1; omega
    have HSN : Hid (r.1 = (sN : Int)) := hsN
    clear hg hfx hsN HX
    have HW : Hid (Kept w u3 ∧ RulesAt u3 (.agg #[.int .i64 r.1, .slice ra1 r.2.1.length rc1, .slice ra2 r.2.2.length rc2]) r ∧ FieldAt u3 (.agg #[.int .i64 f.1, .int .i64 f.2.1, .slice ao f.2.2.length cap]) f) := ⟨HK3.out, HR.out, HF.out⟩
    clear HK3 HR HF
    cases xb with
    | true =>
      obtain ⟨T, hT, hcomp, hhold⟩ := HFX.out.found rfl
      dsimp only at hT
      cases hT
      have HCC : Hid (Comp r.1 f.2.2 XT) := hcomp
      have HHH : Hid (HoldsP r (f.1, f.2.1, XT)) := hhold
      have hxl : ((XT.length : Int) != (f.2.2.length : Int)) = false := by simp [hcomp.len]
      clear hcomp hhold
      have a0 := HLr.out.cell 0 rfl
      have a1 := HLr.out.cell 1 rfl
      have a2 := HLr.out.cell 2 rfl
      have al := HLr.out.lt
      repeat (first | go_values | go_skip | go_guarded | go_step | go_upon)
      go_at_call 14
      refine (sholds _ _ r (f.1, f.2.1, XT) _ (HW.out.2.1.kept ((But.refl _ _ _).alloc _)) ⟨_, rfl, HOG.out.kept ((But.refl _ _ _).alloc _)⟩ (by omega) (by have := HCC.out.len; show XT.length ≤ 1048576; omega)).mono ?_
      rintro e u4 ⟨rfl, k4⟩
      rw [dec_yes ⟨⟨HG.out.1, HCC.out.fld (show FieldP r.1 (f.1, f.2.1, f.2.2) from HG.out.2)⟩, HHH.out⟩]
      have j4 : Kept u3 u4 := ((But.refl _ _ u3).alloc _).trans k4
      have s4' := j4.size
      have HLr : Hid (Loc u4 BR [.int .i64 r.1, .slice ra1 r.2.1.length rc1, .slice ra2 r.2.2.length rc2]) := HLr.out.kept j4
      have HLf : Hid (Loc u4 (BR + 1) [.int .i64 f.1, .int .i64 f.2.1, .slice ao f.2.2.length cap]) := HLf.out.kept j4
      have HLx : Hid (Loc u4 BX [.bool true, .int .i64 f.1, .int .i64 f.2.1, .slice ag XT.length cg, .int .i64 xt]) := HLx.out.kept j4
      have HOG : Hid (NumAt u4 (.slice ag XT.length cg) XT) := HOG.out.kept j4
      have HW : Hid (Kept w u4 ∧ RulesAt u4 (.agg #[.int .i64 r.1, .slice ra1 r.2.1.length rc1, .slice ra2 r.2.2.length rc2]) r ∧ FieldAt u4 (.agg #[.int .i64 f.1, .int .i64 f.2.1, .slice ao f.2.2.length cap]) f) := ⟨HW.out.1.trans j4, HW.out.2.1.kept j4, HW.out.2.2.kept j4⟩
      clear k4 j4 a0 a1 a2 al x0 x1 x2 x3 x4 xl HHH
      have hb2 := HLf.out.cell 2 rfl
      have hx3 := HLx.out.cell 3 rfl
      dsimp only
      repeat (first | go_values | go_skip | go_guarded | go_step | go_upon)
      clear hxl hx3 hb2
      go_loopw [78] (fun i wr => ∃ k : Nat, k ≤ f.2.2.length ∧ i = .int .i64 k ∧ Kept u4 wr) (fun i _ => f.2.2.length - (intOf i).toNat)
      case atStart => exact ⟨0, by omega, rfl, But.refl _ _ _⟩
      case round =>
        obtain ⟨k, hk, rfl, hkp⟩ := hrel
        by_cases hlt : k < f.2.2.length
        · obtain ⟨t, ht⟩ : ∃ t, f.2.2[k]? = some t := ⟨_, List.getElem?_eq_getElem hlt⟩
          obtain ⟨y, hy⟩ : ∃ y, XT[k]? = some y := ⟨_, List.getElem?_eq_getElem (by rw [HCC.out.len]; exact hlt)⟩
          have htd : f.2.2.getD k 0 = t := by rw [List.getD_eq_getElem?_getD, ht]; rfl
          have hyd : XT.getD k 0 = y := by rw [List.getD_eq_getElem?_getD, hy]; rfl
          have hy0 : 0 ≤ y := by have := (HCC.out.inn k hlt).1; rw [hyd] at this; exact this
          have hyt : 0 ≤ t → y = t := fun h0 => by rw [← hyd, HCC.out.off k hlt (by rw [htd]; omega), htd]
          obtain ⟨p1, o1, q1, e, c1⟩ := num_get ((FieldAt.row HW.out.2.2).kept hkp) ht
          cases e
          obtain ⟨p2, o2, q2, e, c2⟩ := num_get (HOG.out.kept hkp) hy
          rw [HCC.out.len] at e
          cases e
          have hx3 := (HLx.out.kept hkp).cell 3 rfl
          rw [HCC.out.len] at hx3
          have d2 : decide (y < 0) = false := by simp; omega
          have z1 : (0 : Int) ≤ (k : Int) := by omega
          have z2 : (k : Int) < (f.2.2.length : Int) := by omega
          have HKP : Hid (Kept u4 wr) := hkp
          clear hkp htd hyd ht hy
          by_cases h0 : 0 ≤ t
          · have d1 : decide (0 ≤ t) = true := by simp; omega
            have d3 : (y != t) = false := by simp [hyt h0]
            clear hyt hy0
            repeat (first | go_values | go_skip | go_guarded | go_step | go_upon)
            exact ⟨⟨k + 1, hlt, by go_num, HKP.out⟩, by simp [intOf]; omega⟩
          · have d1 : decide (0 ≤ t) = false := by simp; omega
            clear hyt hy0
            repeat (first | go_values | go_skip | go_guarded | go_step | go_upon)
            exact ⟨⟨k + 1, hlt, by go_num, HKP.out⟩, by simp [intOf]; omega⟩
        · have hke : k = f.2.2.length := by omega
          subst hke
          have HLr : Hid (Loc wr BR [.int .i64 r.1, .slice ra1 r.2.1.length rc1, .slice ra2 r.2.2.length rc2]) := HLr.out.kept hkp
          have HLf : Hid (Loc wr (BR + 1) [.int .i64 f.1, .int .i64 f.2.1, .slice ao f.2.2.length cap]) := HLf.out.kept hkp
          have HLx : Hid (Loc wr BX [.bool true, .int .i64 f.1, .int .i64 f.2.1, .slice ag XT.length cg, .int .i64 xt]) := HLx.out.kept hkp
          have HOG : Hid (NumAt wr (.slice ag XT.length cg) XT) := HOG.out.kept hkp
          have HW : Hid (Kept w wr ∧ RulesAt wr (.agg #[.int .i64 r.1, .slice ra1 r.2.1.length rc1, .slice ra2 r.2.2.length rc2]) r ∧ FieldAt wr (.agg #[.int .i64 f.1, .int .i64 f.2.1, .slice ao f.2.2.length cap]) f) := ⟨HW.out.1.trans hkp, HW.out.2.1.kept hkp, HW.out.2.2.kept hkp⟩
          clear hkp
          have hb2 := HLf.out.cell 2 rfl
          repeat (first | go_values | go_skip | go_guarded | go_step | go_upon)
          refine forgetC2 (fun u => Kept wr u) (But.refl _ _ _) ?_
          intro UU kU
          have HLr : Hid (Loc UU BR [.int .i64 r.1, .slice ra1 r.2.1.length rc1, .slice ra2 r.2.2.length rc2]) := HLr.out.kept kU
          have HLf : Hid (Loc UU (BR + 1) [.int .i64 f.1, .int .i64 f.2.1, .slice ao f.2.2.length cap]) := HLf.out.kept kU
          have HLx : Hid (Loc UU BX [.bool true, .int .i64 f.1, .int .i64 f.2.1, .slice ag XT.length cg, .int .i64 xt]) := HLx.out.kept kU
          have HOG : Hid (NumAt UU (.slice ag XT.length cg) XT) := HOG.out.kept kU
          have HW : Hid (Kept w UU ∧ RulesAt UU (.agg #[.int .i64 r.1, .slice ra1 r.2.1.length rc1, .slice ra2 r.2.2.length rc2]) r ∧ FieldAt UU (.agg #[.int .i64 f.1, .int .i64 f.2.1, .slice ao f.2.2.length cap]) f) := ⟨HW.out.1.trans kU, HW.out.2.1.kept kU, HW.out.2.2.kept kU⟩
          clear kU
          obtain ⟨B0, hB0⟩ : ∃ q, UU.heap.size = q := ⟨_, rfl⟩
          have hlX := HLx.out.lt
          have hwB := HW.out.1.size
          rw [hB0] at hlX hwB
          have HB0 : Hid (UU.heap.size = B0) := hB0
          clear hB0
          obtain ⟨i0, hi0, hz0, hz1, hz2⟩ := info_parts info_num
          go_loopw [11, 12, 108] (fun x a i wr => ∃ (k : Nat) (op : List Int) (P : Nat) (ao5 : Option Addr) (c5 : Nat), k ≤ f.2.2.length ∧ i = .int .i64 k ∧ x = .slice ao5 op.length c5 ∧ a = .int .i64 (P : Int) ∧ P ≤ 300 ∧ op.length ≤ 36 ∧ Hid (op = cutL (openB f.2.2) k ∧ P = sN ^ op.length) ∧ Hid (wr.ownsRow B0 3 1 (.slice ao5 op.length c5) op.length (op.flatMap numC)) ∧ Hid (Kept UU wr)) (fun x a i _ => f.2.2.length - (intOf i).toNat)
          case atStart => exact ⟨0, [], 1, none, 0, by omega, rfl, rfl, rfl, by omega, by simp, (⟨rfl, rfl⟩ : _ ∧ _), (World.ownsRow_nil _ _ _ _ : World.ownsRow _ _ _ _ _ _ _), But.refl _ _ _⟩
          case round =>
            obtain ⟨k, op, P, ao5, c5, hk, rfl, rfl, rfl, hP, hop, HE, HRow, HKr⟩ := hrel
            by_cases hlt : k < f.2.2.length
            · obtain ⟨t, ht⟩ : ∃ t, f.2.2[k]? = some t := ⟨_, List.getElem?_eq_getElem hlt⟩
              have htd : f.2.2.getD k 0 = t := by rw [List.getD_eq_getElem?_getD, ht]; rfl
              have htb := HG.out.2.2.2.2 k hlt t ht
              have hkr := HKr.out
              obtain ⟨p1, o1, q1, e, c1⟩ := num_get ((FieldAt.row HW.out.2.2).kept hkr) ht
              cases e
              have z1 : (0 : Int) ≤ (k : Int) := by omega
              have z2 : (k : Int) < (f.2.2.length : Int) := by omega
              have hBs : B0 ≤ wr.heap.size := by have := hkr.size; rw [HB0.out] at this; exact this
              clear hkr ht
              by_cases h0 : t < 0
              · have ht1 : t = -1 := by omega
                have hob : openB f.2.2 k = true := by unfold openB; rw [htd, ht1]; rfl
                have d1 : decide (t < 0) = true := by simp; omega
                have HOB : Hid (openB f.2.2 k = true) := hob
                have hop2 : op.length + 1 ≤ 36 := by
                  have := cutL_len (openB f.2.2) (k + 1)
                  rw [cutL_yes hob, ← HE.out.1, List.length_append] at this
                  simp at this
                  omega
                clear hob htd htb ht1
                repeat (first | (at_builtin; refine forgetL (fun w' => w' = _) rfl ?_) | go_values | go_skip | go_guarded | go_step | go_upon)
                intro W7 hW7
                have k7 : Kept wr W7 := by rw [hW7]; exact (But.refl _ _ _).alloc _
                have N7 : Loc W7 wr.heap.size [.int .i64 (k : Int)] := by rw [hW7]; exact Loc.new wr _ _
                have s7 := k7.size
                have hRow7 := own_kept HRow.out k7
                clear hW7 d1 c1
                refine wpList_append_own _ rfl _ _ 26 rfl B0 3 i0 (.int .i64 0) 1 8 Try.underlying26 hi0 hz0 hz1 hz2 rfl (by decide) (.slice ao5 op.length c5) op.length (op.flatMap numC) rfl hRow7 ⟨wr.heap.size, 0, none⟩ 1 1 [.int .i64 (k : Int)] rfl rfl (news1 N7) (by simp [Value.oneCell']) (by unfold maxLen; omega) (by omega) (by omega) ?_
                intro v' W8 hown' hgrow _
                obtain ⟨ao6, c6, hf6, _⟩ := own_form hown'
                subst hf6
                have k8 : Kept UU W8 := (HKr.out.trans k7).grown hgrow (fun x hx => by have := own_lt hRow7 hx; have := HB0.out; omega)
                have HK8 : Hid (Kept UU W8) := k8
                have HR8 : Hid (W8.ownsRow B0 3 1 (.slice ao6 (op.length + 1) c6) (op.length + 1) ((op ++ [(k : Int)]).flatMap numC)) := by
                  have : W8.ownsRow B0 3 1 (.slice ao6 (op.length + 1) c6) (op.length + 1) ((op ++ [(k : Int)]).flatMap numC) := by
                    rw [List.flatMap_append]; exact hown'
                  exact this
                have hE2 : op ++ [(k : Int)] = cutL (openB f.2.2) (k + 1) ∧ P * sN = sN ^ (op ++ [(k : Int)]).length := by
                  refine ⟨by rw [cutL_yes HOB.out, HE.out.1], ?_⟩
                  rw [List.length_append, List.length_singleton, Nat.pow_succ, ← HE.out.2]
                have HE2 : Hid (op ++ [(k : Int)] = cutL (openB f.2.2) (k + 1) ∧ P * sN = sN ^ (op ++ [(k : Int)]).length) := hE2
                have a0 := (HLr.out.kept k8).cell 0 rfl
                rw [HSN.out] at a0
                have hPs : P * sN ≤ 300 * 6 := Nat.mul_le_mul hP hs6.2
                obtain ⟨PS, hPS⟩ : ∃ q, P * sN = q := ⟨_, rfl⟩
                have hmul : (P : Int) * (sN : Int) = (PS : Int) := by rw [← hPS]; simp
                have hmul2 : IntKind.i64.wrap ((P : Int) * (sN : Int)) = (PS : Int) := by rw [hmul, IntWalk.i64_in _ (by omega)]
                have HPS : Hid (P * sN = PS) := hPS
                have hPS2 : PS ≤ 1800 := by omega
                clear hPS hPs hE2 hown' hgrow hRow7 N7 k7 k8 HRow HKr HE HOB
                by_cases hbig : PS ≤ 300
                · have d3 : decide ((300 : Int) < (PS : Int)) = false := by simp; omega
                  have d4 : decide (300 < PS) = false := by simp; omega
                  dsimp only
                  repeat (first | go_values | go_skip | go_guarded | go_step | go_upon)
                  refine ⟨⟨k + 1, op ++ [(k : Int)], PS, ao6, c6, hlt, by go_num, by simp, rfl, hbig, by simp; omega, ?_, ?_, HK8⟩, by simp [intOf]; omega⟩
                  · show op ++ [(k : Int)] = cutL (openB f.2.2) (k + 1) ∧ PS = sN ^ (op ++ [(k : Int)]).length
                    exact ⟨HE2.out.1, by rw [← HE2.out.2]; exact HPS.out.symm⟩
                  · show World.ownsRow _ _ _ _ _ _ _
                    rw [List.length_append]; exact HR8.out
                · have d3 : decide ((300 : Int) < (PS : Int)) = true := by simp; omega
                  have d4 : decide (300 < PS) = true := by simp; omega
                  dsimp only
                  repeat (first | go_values | go_skip | go_guarded | go_step | go_upon)
                  go_ret
                  exact ⟨rfl, HW.out.1.trans HK8.out⟩
              · have d1 : decide (t < 0) = false := by simp; omega
                have hob : openB f.2.2 k = false := by unfold openB; rw [htd]; exact decide_eq_false (by omega)
                have HOB : Hid (openB f.2.2 k = false) := hob
                clear hob htd htb
                repeat (first | go_values | go_skip | go_guarded | go_step | go_upon)
                exact ⟨⟨k + 1, op, P, ao5, c5, hlt, by go_num, rfl, rfl, hP, hop, (⟨by rw [cutL_no HOB.out]; exact HE.out.1, HE.out.2⟩ : _ ∧ _), HRow, HKr⟩, by simp [intOf]; omega⟩
            · have hke : k = f.2.2.length := by omega
              subst hke
              have hope : op = openL f.2.2 := HE.out.1
              subst hope
              have hPE : P = sN ^ (openL f.2.2).length := HE.out.2
              have HPE : Hid (P = sN ^ (openL f.2.2).length) := hPE
              clear hPE HE
              refine forgetC2 (fun u => Kept UU u ∧ NumAt u (.slice ao5 (openL f.2.2).length c5) (openL f.2.2)) ⟨HKr.out, own_row HRow.out⟩ ?_
              rintro U5 ⟨k5, hop5⟩
              have HLr : Hid (Loc U5 BR [.int .i64 r.1, .slice ra1 r.2.1.length rc1, .slice ra2 r.2.2.length rc2]) := HLr.out.kept k5
              have HLf : Hid (Loc U5 (BR + 1) [.int .i64 f.1, .int .i64 f.2.1, .slice ao f.2.2.length cap]) := HLf.out.kept k5
              have HLx : Hid (Loc U5 BX [.bool true, .int .i64 f.1, .int .i64 f.2.1, .slice ag XT.length cg, .int .i64 xt]) := HLx.out.kept k5
              have HOG : Hid (NumAt U5 (.slice ag XT.length cg) XT) := HOG.out.kept k5
              have HW : Hid (Kept w U5 ∧ RulesAt U5 (.agg #[.int .i64 r.1, .slice ra1 r.2.1.length rc1, .slice ra2 r.2.2.length rc2]) r ∧ FieldAt U5 (.agg #[.int .i64 f.1, .int .i64 f.2.1, .slice ao f.2.2.length cap]) f) := ⟨HW.out.1.trans k5, HW.out.2.1.kept k5, HW.out.2.2.kept k5⟩
              have HOP : Hid (NumAt U5 (.slice ao5 (openL f.2.2).length c5) (openL f.2.2)) := hop5
              have hs5 : B0 ≤ U5.heap.size := by have := k5.size; rw [HB0.out] at this; exact this
              clear k5 hop5 HKr HRow
              have x0 := HLx.out.cell 0 rfl
              have x4 := HLx.out.cell 4 rfl
              have b2 := HLf.out.cell 2 rfl
              have xl := HLx.out.lt
              have bl := HLf.out.lt
              have H5 : Hid ((true : Bool) = true ∨ xt ≠ 5000) := .inl rfl
              repeat (first | (at_builtin; refine forgetL (fun w' => w' = _) rfl ?_) | go_values | go_skip | go_guarded | go_step | go_upon)
              intro W7 hW7
              subst hW7
              refine wpList_append_any _ rfl _ _ 26 rfl U5.heap.size 3 i0 (.int .i64 0) 1 8 Try.underlying26 hi0 hz0 hz1 hz2 rfl (by decide) _ _ _ rfl (own_new U5 3) ao f.2.2.length cap (f.2.2.flatMap numC) rfl (flat_len 1 numC numC_len f.2.2) (row_src ((FieldAt.row HW.out.2.2).kept ((But.refl _ _ _).alloc _))) (ones f.2.2) (by unfold maxLen; omega) (by omega) (by simp) ?_
              intro v' U7 hown hgrow
              obtain ⟨aot, ct, hf5, _⟩ := own_form hown
              subst hf5
              have k7 : Kept U5 U7 := ((But.refl _ _ U5).alloc (.cells #[] 3)).grown hgrow (by intro x hx; cases hx; simp)
              have hT : NumO U7 U5.heap.size U7.heap.size (.slice aot f.2.2.length ct) f.2.2 := by
                rw [Nat.zero_add, List.nil_append] at hown
                exact RowO.top hown
              rw [Nat.zero_add]
              clear hown hgrow x0 x4 b2 xl bl
              obtain ⟨lo7, hlo7⟩ : ∃ q, U5.heap.size = q := ⟨_, rfl⟩
              obtain ⟨hi7, hhi7⟩ : ∃ q, U7.heap.size = q := ⟨_, rfl⟩
              rw [hlo7, hhi7] at hT
              rw [hlo7] at hs5
              have HT : Hid (NumO U7 lo7 hi7 (.slice aot f.2.2.length ct) f.2.2) := hT
              have HK7 : Hid (Kept U5 U7) := k7
              have HLO : Hid (U5.heap.size = lo7) := hlo7
              clear hT k7 hlo7 hhi7
              dsimp only
              repeat (first | go_values | go_skip | go_guarded | go_step | go_upon)
              go_loopw [16] (fun i wr => ∃ (n : Nat) (T : List Int), n ≤ P ∧ i = .int .i64 n ∧ Hid (NumO wr lo7 hi7 (.slice aot f.2.2.length ct) T ∧ Off f.2.2 T) ∧ Hid (∀ j, j < n → ¬ HoldsP r (f.1, f.2.1, nthL sN f.2.2 j)) ∧ Hid (Kept U5 wr)) (fun i _ => P - (intOf i).toNat)
              case atStart => exact ⟨0, f.2.2, by omega, rfl, (⟨HT.out, rfl, fun i hi h0 => rfl⟩ : _ ∧ _), (fun j hj => by omega : ∀ j, j < 0 → ¬ HoldsP r (f.1, f.2.1, nthL sN f.2.2 j)), HK7⟩
              case round =>
                obtain ⟨n, T, hn, rfl, HT, HNO, HK5⟩ := hrel
                by_cases hlt : n < P
                · have d1 : decide ((n : Int) < (P : Int)) = true := by simp; omega
                  have d2 : decide (n < P) = true := by simp; omega
                  have hKl : (openL f.2.2).length ≤ 36 := hop
                  obtain ⟨K, hK⟩ : ∃ K, (openL f.2.2).length = K := ⟨_, rfl⟩
                  have HKe : Hid (((openL f.2.2).length : Int) = (K : Int)) := by show _ = _; omega
                  have hw1 : IntKind.i64.wrap (((openL f.2.2).length : Int) - 1) = (K : Int) - 1 := by rw [IntWalk.i64_in _ (by omega)]; omega
                  have hw2 : ((openL f.2.2).length : Int) - 1 = (K : Int) - 1 := by omega
                  have HKn : Hid ((openL f.2.2).length = K) := hK
                  have hK36 : K ≤ 36 := by omega
                  clear hK
                  repeat (first | go_values | go_skip | go_guarded | go_step | go_upon)
                  clear d1 d2 hw1 hw2
                  go_loopw [17, 18] (fun a b wr => ∃ (c : Nat) (z : Int) (M : Nat) (T : List Int), c ≤ K ∧ a = .int .i64 (M : Int) ∧ b = .int .i64 z ∧ M ≤ 300 ∧ Hid (M = n / sN ^ c ∧ z = (K : Int) - 1 - (c : Int)) ∧ Hid (NumO wr lo7 hi7 (.slice aot f.2.2.length ct) T ∧ Off f.2.2 T ∧ Digs sN n f.2.2 T c) ∧ Hid (Kept U5 wr)) (fun a b _ => (intOf b + 1).toNat)
                  case atStart => exact ⟨0, _, n, T, by omega, rfl, rfl, by omega, (⟨by simp, by simp⟩ : _ ∧ _), (⟨HT.out.1, HT.out.2, Digs.start _ _ _ _⟩ : _ ∧ _ ∧ _), HK5⟩
                  case round =>
                    clear HT HK5
                    obtain ⟨c, z, M, T, hc, rfl, rfl, hM, HE, HT, HK5⟩ := hrel
                    by_cases hcl : c < K
                    · obtain ⟨J, hJ⟩ : ∃ J : Nat, z = (J : Int) := ⟨z.toNat, by have := HE.out.2; omega⟩
                      subst hJ
                      have hJe : J = K - 1 - c := by have := HE.out.2; omega
                      have hJl : J < (openL f.2.2).length := by rw [HKn.out]; omega
                      have HJ : Hid (J = (openL f.2.2).length - 1 - c) := by show _ = _; rw [HKn.out]; exact hJe
                      obtain ⟨hp1, hp2, hp3⟩ := plc_get hJl
                      obtain ⟨po, oo, qo, e, co⟩ := num_get (HOP.out.kept HK5.out) hp1
                      cases e
                      have hTl : T.length = f.2.2.length := HT.out.2.1.1
                      obtain ⟨y0, hy0⟩ : ∃ y, T[plc f.2.2 J]? = some y := ⟨_, List.getElem?_eq_getElem (by rw [hTl]; exact hp2)⟩
                      have HY0 : Hid (T[plc f.2.2 J]? = some y0) := hy0
                      obtain ⟨gt, ot, qt, e, ct0⟩ := num_get HT.out.1.at hy0
                      rw [hTl] at e
                      cases e
                      obtain ⟨g', cap', hfm⟩ : ∃ g cap', Value.slice (some ⟨gt, ot, none⟩) f.2.2.length ct = .slice (some ⟨g, 0, none⟩) f.2.2.length cap' := by
                        rcases HT.out.1.1.2 with ⟨hf, _⟩ | ⟨g, c2, cur, hf, _⟩
                        · cases hf
                        · rw [hTl] at hf; exact ⟨g, c2, hf⟩
                      cases hfm
                      have hgt : lo7 ≤ gt ∧ gt < hi7 := ⟨(own_lt HT.out.1.1 (g := gt) rfl).1, HT.out.1.2 gt rfl⟩
                      obtain ⟨d0, dz⟩ := HT.out.1.cells hy0
                      obtain ⟨Q, hQ⟩ : ∃ q, plc f.2.2 J = q := ⟨_, rfl⟩
                      have HQ : Hid (plc f.2.2 J = Q) := hQ
                      rw [hQ] at d0 co hp2
                      have dz0 := dz Q
                      have a0 := (HLr.out.kept HK5.out).cell 0 rfl
                      rw [HSN.out] at a0
                      have hpo : po < lo7 := by
                        obtain ⟨b9, o9, q9, e9, c9⟩ := num_get HOP.out hp1
                        cases e9
                        have h1 := block_of_cell c9
                        rw [HLO.out] at h1
                        exact h1
                      have hne1 : po ≠ gt := by omega
                      have hne2 : gt ≠ po := by omega
                      have hne3 : BR ≠ gt := by omega
                      have hne4 : gt ≠ BR := by omega
                      have y1 : (0 : Int) ≤ (J : Int) := by omega
                      have y2 : (J : Int) < ((openL f.2.2).length : Int) := by omega
                      have y3 : (0 : Int) ≤ (Q : Int) := by omega
                      have y4 : (Q : Int) < (f.2.2.length : Int) := by omega
                      have m1 : ((sN : Int) == 0) = false := by simp; omega
                      have m1' : (sN : Int) ≠ 0 := by omega
                      have m4 : ((M % sN : Nat) : Int) = (M : Int) % (sN : Int) := by simp
                      have m5 : ((M / sN : Nat) : Int) = (M : Int) / (sN : Int) := by simp
                      obtain ⟨MR, hMR⟩ : ∃ q, M % sN = q := ⟨_, rfl⟩
                      obtain ⟨MD, hMD⟩ : ∃ q, M / sN = q := ⟨_, rfl⟩
                      have hMRl : MR ≤ 300 := by have := Nat.mod_le M sN; omega
                      have hMDl : MD ≤ 300 := by have := Nat.div_le_self M sN; omega
                      rw [hMR] at m4
                      rw [hMD] at m5
                      have m2 : IntKind.i64.wrap (Int.tmod (M : Int) (sN : Int)) = (MR : Int) := by rw [Int.tmod_eq_emod_of_nonneg (by omega), ← m4, IntWalk.i64_in _ (by omega)]
                      have m3 : IntKind.i64.wrap (Int.tdiv (M : Int) (sN : Int)) = (MD : Int) := by rw [Int.tdiv_eq_ediv_of_nonneg (by omega), ← m5, IntWalk.i64_in _ (by omega)]
                      have m6 : (M : Int) % (sN : Int) = (MR : Int) := m4.symm
                      have m7 : (M : Int) / (sN : Int) = (MD : Int) := m5.symm
                      have HMM : Hid (M % sN = MR ∧ M / sN = MD) := ⟨hMR, hMD⟩
                      clear m4 m5 hMR hMD
                      clear hy0 hQ dz hp1 hp3 hJe ct0
                      repeat (first | go_values | go_skip | go_guarded | go_step | go_upon)
                      have KD : Kept wr wr.drew := (But.refl _ _ _).drew
                      have hSa : (fun w' => w'.cell? ⟨po, oo + J, none⟩ = some (.int .i64 (Q : Int)) ∧ w'.cell? ⟨BR, 0, none⟩ = some (.int .i64 (sN : Int))) wr.drew := ⟨Kept.cell KD co, Kept.cell KD a0⟩
                      have q0 : wr.drew.cell? ⟨gt, Q, none⟩ = some (.int .i64 y0) := Kept.cell KD d0
                      have qf : wr.drew.frozen? ⟨gt, Q, none⟩ = false := dz0
                      have kb9 : But gt (gt + 1) wr.drew (wr.drew.setCell ⟨gt, Q, none⟩ (.int .i64 (MR : Int))) := (But.refl _ _ _).setCell (by simp) (by simp) _
                      have hSd : (fun w' => w'.cell? ⟨po, oo + J, none⟩ = some (.int .i64 (Q : Int)) ∧ w'.cell? ⟨BR, 0, none⟩ = some (.int .i64 (sN : Int))) (wr.drew.setCell ⟨gt, Q, none⟩ (.int .i64 (MR : Int))) := ⟨But.cell kb9 hSa.1 (by show po < gt ∨ gt + 1 ≤ po; omega), But.cell kb9 hSa.2 (by show BR < gt ∨ gt + 1 ≤ BR; omega)⟩
                      refine wp_region_Z (fun w' => w'.cell? ⟨po, oo + J, none⟩ = some (.int .i64 (Q : Int)) ∧ w'.cell? ⟨BR, 0, none⟩ = some (.int .i64 (sN : Int))) 99 (by kernel_rfl) ?_
                      refine wpAnyZ_take (i := 0) (v := .slice (some ⟨gt, 0, none⟩) f.2.2.length ct) rfl (by kernel_rfl) (by kernel_rfl) (by kernel_rfl) (by kernel_rfl) (fun _ _ _ h => h) (Or.inl ⟨by rfl, ?_⟩) hSa ?_
                      · intro w' hSw; obtain ⟨s0, s1⟩ := hSw; go_simp
                      try simp only [Act.put]
                      refine wpAnyZ_take (i := 1) (v := .slice (some ⟨po, oo, none⟩) (openL f.2.2).length c5) rfl (by kernel_rfl) (by kernel_rfl) (by kernel_rfl) (by kernel_rfl) (fun _ _ _ h => h) (Or.inl ⟨by rfl, ?_⟩) hSa ?_
                      · intro w' hSw; obtain ⟨s0, s1⟩ := hSw; go_simp
                      try simp only [Act.put]
                      refine wpAnyZ_take (i := 2) (v := .int .i64 (J : Int)) rfl (by kernel_rfl) (by kernel_rfl) (by kernel_rfl) (by kernel_rfl) (fun _ _ _ h => h) (Or.inl ⟨by rfl, ?_⟩) hSa ?_
                      · intro w' hSw; obtain ⟨s0, s1⟩ := hSw; go_simp
                      try simp only [Act.put]
                      refine wpAnyZ_take (i := 3) (v := .pointer (some ⟨po, oo + J, none⟩)) rfl (by kernel_rfl) (by kernel_rfl) (by kernel_rfl) (by kernel_rfl) (fun _ _ _ h => h) (Or.inl ⟨by rfl, ?_⟩) hSa ?_
                      · intro w' hSw; obtain ⟨s0, s1⟩ := hSw; go_simp
                      try simp only [Act.put]
                      refine wpAnyZ_take (i := 4) (v := .int .i64 (Q : Int)) rfl (by kernel_rfl) (by kernel_rfl) (by kernel_rfl) (by kernel_rfl) (fun _ _ _ h => h) (Or.inl ⟨by rfl, ?_⟩) hSa ?_
                      · intro w' hSw; obtain ⟨s0, s1⟩ := hSw; go_simp
                      try simp only [Act.put]
                      refine wpAnyZ_take (i := 5) (v := .int .i64 (M : Int)) rfl (by kernel_rfl) (by kernel_rfl) (by kernel_rfl) (by kernel_rfl) (fun _ _ _ h => h) (Or.inl ⟨by rfl, ?_⟩) hSa ?_
                      · intro w' hSw; obtain ⟨s0, s1⟩ := hSw; go_simp
                      try simp only [Act.put]
                      refine wpAnyZ_take (i := 6) (v := .pointer (some ⟨BR, 0, none⟩)) rfl (by kernel_rfl) (by kernel_rfl) (by kernel_rfl) (by kernel_rfl) (fun _ _ _ h => h) (Or.inl ⟨by rfl, ?_⟩) hSa ?_
                      · intro w' hSw; obtain ⟨s0, s1⟩ := hSw; go_simp
                      try simp only [Act.put]
                      refine wpAnyZ_take (i := 7) (v := .int .i64 (sN : Int)) rfl (by kernel_rfl) (by kernel_rfl) (by kernel_rfl) (by kernel_rfl) (fun _ _ _ h => h) (Or.inl ⟨by rfl, ?_⟩) hSa ?_
                      · intro w' hSw; obtain ⟨s0, s1⟩ := hSw; go_simp
                      try simp only [Act.put]
                      refine wpAnyZ_one (i := 8) (by kernel_rfl) rfl ?_
                      intro K8 hK8
                      rw [if_pos (by rfl)]
                      repeat (first | go_values | go_skip | go_guarded | go_step | go_upon)
                      refine hK8.out _ _ (fun _ => hSa) ?_
                      clear hK8 K8
                      try simp only [Act.put]
                      refine wpAnyZ_take (i := 9) (v := .pointer (some ⟨gt, Q, none⟩)) rfl (by kernel_rfl) (by kernel_rfl) (by kernel_rfl) (by kernel_rfl) (fun _ _ _ h => h) (Or.inl ⟨by rfl, ?_⟩) hSa ?_
                      · intro w' hSw; obtain ⟨s0, s1⟩ := hSw; go_simp
                      try simp only [Act.put]
                      refine wpAnyZ_one (i := 10) (by kernel_rfl) rfl ?_
                      intro K8 hK8
                      rw [if_pos (by rfl)]
                      go_simp
                      refine hK8.out _ _ (fun _ => hSd) ?_
                      clear hK8 K8
                      refine wpAnyZ_done (by kernel_rfl) ?_ _
                      try simp only [Act.put]
                      clear hSa hSd kb9 KD q0 qf
                      have hw3 : IntKind.i64.wrap ((J : Int) - 1) = (J : Int) - 1 := by rw [IntWalk.i64_in _ (by omega)]
                      repeat (first | go_values | go_skip | go_guarded | go_step | go_upon)
                      have hset := HT.out.1.set (hTl.symm) (show T[Q]? = some y0 by rw [← HQ.out]; exact HY0.out) (MR : Int)
                      refine ⟨⟨c + 1, (J : Int) - 1, MD, T.set Q (MR : Int), by omega, rfl, rfl, hMDl, ?_, ?_, ?_⟩, by first | (simp [intOf]; done) | (simp [intOf]; omega)⟩
                      · show MD = n / sN ^ (c + 1) ∧ (J : Int) - 1 = (K : Int) - 1 - ((c + 1 : Nat) : Int)
                        refine ⟨?_, by have := HE.out.2; omega⟩
                        rw [Nat.pow_succ, ← Nat.div_div_eq_div_mul, ← HE.out.1]
                        exact HMM.out.2.symm
                      · show NumO _ lo7 hi7 _ (T.set Q (MR : Int)) ∧ Off f.2.2 (T.set Q (MR : Int)) ∧ Digs sN n f.2.2 (T.set Q (MR : Int)) (c + 1)
                        have hst := Digs.step HT.out.2.1 HT.out.2.2 (show c < (openL f.2.2).length by rw [HKn.out]; exact hcl)
                        rw [← HJ.out, HQ.out, ← HE.out.1, HMM.out.1] at hst
                        have hof := HT.out.2.1.set hJl (MR : Int)
                        rw [HQ.out] at hof
                        exact ⟨hset.kept (by (repeat (first | with_reducible exact But.refl _ _ _ | with_reducible apply But.drewN | with_reducible apply But.drew))), hof, hst⟩
                      · show Kept U5 _
                        (repeat (first | with_reducible exact HK5.out | with_reducible apply But.drewN | with_reducible apply But.drew | (with_reducible refine But.setNew ?_ (by have := HLO.out; simp; omega) _)))
                    · have hce : c = K := by omega
                      subst hce
                      have hTn : T = nthL sN f.2.2 n := Digs.done HT.out.2.1 (by rw [HKn.out]; exact HT.out.2.2)
                      subst hTn
                      have HTn : Hid (NumO wr lo7 hi7 (.slice aot f.2.2.length ct) (nthL sN f.2.2 n)) := HT.out.1
                      have HOF : Hid (Off f.2.2 (nthL sN f.2.2 n)) := HT.out.2.1
                      have hz : z = -1 := by have := HE.out.2; omega
                      subst hz
                      clear HT HE
                      have a0 := (HLr.out.kept HK5.out).cell 0 rfl
                      have a1 := (HLr.out.kept HK5.out).cell 1 rfl
                      have a2 := (HLr.out.kept HK5.out).cell 2 rfl
                      have b0 := (HLf.out.kept HK5.out).cell 0 rfl
                      have b1 := (HLf.out.kept HK5.out).cell 1 rfl
                      have hr1 : r.1.toNat = sN := by have := HSN.out; omega
                      have HR1 : Hid (r.1.toNat = sN) := hr1
                      have hgF : GoodP r (f.1, f.2.1, nthL sN f.2.2 n) := by
                        refine ⟨HG.out.1, ?_⟩
                        have := (nthL_comp (n := n) (show FieldP r.1 (f.1, f.2.1, f.2.2) from HG.out.2) HG.out.1.1.1).fld (show FieldP r.1 (f.1, f.2.1, f.2.2) from HG.out.2)
                        rw [HR1.out] at this
                        exact this
                      have HGF : Hid (GoodP r (f.1, f.2.1, nthL sN f.2.2 n)) := hgF
                      clear hr1 hgF
                      repeat (first | go_values | go_skip | go_guarded | go_step | go_upon)
                      go_at_call 14
                      refine (sholds _ _ r (f.1, f.2.1, nthL sN f.2.2 n) _ (HW.out.2.1.kept HK5.out) ⟨_, rfl, HTn.out.at⟩ (by omega) (by show (nthL sN f.2.2 n).length ≤ 1048576; rw [nthL_len]; omega)).mono ?_
                      rintro e u9 ⟨rfl, k9⟩
                      have HK9 : Hid (Kept U5 u9) := HK5.out.trans k9
                      have HT9 : Hid (NumO u9 lo7 hi7 (.slice aot f.2.2.length ct) (nthL sN f.2.2 n)) := HTn.out.kept k9
                      clear k9 HK5 HTn a0 a1 a2 b0 b1
                      by_cases hh : HoldsP r (f.1, f.2.1, nthL sN f.2.2 n)
                      · have hfir := HFX.out.first H5.out n (by rw [HR1.out, ← HPE.out]; exact hlt) (by rw [HR1.out]; exact HNO.out) (by rw [HR1.out]; exact hh)
                        rw [dec_yes ⟨HGF.out, hh⟩]
                        clear hh
                        have hXT : XT = nthL sN f.2.2 n := by
                          have := hfir.2
                          rw [HR1.out] at this
                          exact this
                        have HXT : Hid (XT = nthL sN f.2.2 n) := hXT
                        clear hXT hfir
                        have x0 := (HLx.out.kept HK9.out).cell 0 rfl
                        have x3 := (HLx.out.kept HK9.out).cell 3 rfl
                        dsimp only
                        repeat (first | go_values | go_skip | go_guarded | go_step | go_upon)
                        go_at_call 15
                        refine (sameI (nthL sN f.2.2 n) _ _ _ HT9.out.at (by rw [← HXT.out]; exact HOG.out.kept HK9.out) (by rw [nthL_len]; omega)).mono ?_
                        rintro e u10 ⟨rfl, k10⟩
                        dsimp only
                        repeat (first | go_values | go_skip | go_guarded | go_step | go_upon)
                        go_ret
                        exact ⟨rfl, (HW.out.1.trans HK9.out).trans k10⟩
                      · have HHN : Hid (¬ HoldsP r (f.1, f.2.1, nthL sN f.2.2 n)) := hh
                        rw [dec_no (fun h => hh h.2)]
                        clear hh
                        dsimp only
                        repeat (first | go_values | go_skip | go_guarded | go_step | go_upon)
                        refine ⟨⟨n + 1, nthL sN f.2.2 n, hlt, by go_num, ?_, ?_, HK9⟩, by simp [intOf]; omega⟩
                        · exact (⟨HT9.out, HOF.out⟩ : _ ∧ _)
                        · show ∀ j, j < n + 1 → ¬ HoldsP r (f.1, f.2.1, nthL sN f.2.2 j)
                          intro j hj
                          by_cases e : j = n
                          · rw [e]; exact HHN.out
                          · exact HNO.out j (by omega)
                · have hne : n = P := by omega
                  subst hne
                  have hr1 : r.1.toNat = sN := by have := HSN.out; omega
                  have hnone := HFX.out.none (by rw [hr1, ← HPE.out]; exact HNO.out)
                  dsimp only at hnone
                  cases hnone
    | false =>
      have hb2 := HLf.out.cell 2 rfl
      have hbl := HLf.out.lt
      repeat (first | go_values | go_skip | go_guarded | go_step | go_upon)
      refine forgetC2 (fun u => Kept u3 u) ((But.refl _ _ _).alloc _) ?_
      intro u4 k4
      have s4' := k4.size
      have HLr : Hid (Loc u4 BR [.int .i64 r.1, .slice ra1 r.2.1.length rc1, .slice ra2 r.2.2.length rc2]) := HLr.out.kept k4
      have HLf : Hid (Loc u4 (BR + 1) [.int .i64 f.1, .int .i64 f.2.1, .slice ao f.2.2.length cap]) := HLf.out.kept k4
      have HLx : Hid (Loc u4 BX [.bool false, .int .i64 xw, .int .i64 xh, .slice ag XT.length cg, .int .i64 xt]) := HLx.out.kept k4
      have HOG : Hid (NumAt u4 (.slice ag XT.length cg) XT) := HOG.out.kept k4
      have HW : Hid (Kept w u4 ∧ RulesAt u4 (.agg #[.int .i64 r.1, .slice ra1 r.2.1.length rc1, .slice ra2 r.2.2.length rc2]) r ∧ FieldAt u4 (.agg #[.int .i64 f.1, .int .i64 f.2.1, .slice ao f.2.2.length cap]) f) := ⟨HW.out.1.trans k4, HW.out.2.1.kept k4, HW.out.2.2.kept k4⟩
      clear k4 x0 x1 x2 x3 x4 xl hb2 hbl
      refine forgetC2 (fun u => Kept u4 u) (But.refl _ _ _) ?_
      intro UU kU
      have HLr : Hid (Loc UU BR [.int .i64 r.1, .slice ra1 r.2.1.length rc1, .slice ra2 r.2.2.length rc2]) := HLr.out.kept kU
      have HLf : Hid (Loc UU (BR + 1) [.int .i64 f.1, .int .i64 f.2.1, .slice ao f.2.2.length cap]) := HLf.out.kept kU
      have HLx : Hid (Loc UU BX [.bool false, .int .i64 xw, .int .i64 xh, .slice ag XT.length cg, .int .i64 xt]) := HLx.out.kept kU
      have HOG : Hid (NumAt UU (.slice ag XT.length cg) XT) := HOG.out.kept kU
      have HW : Hid (Kept w UU ∧ RulesAt UU (.agg #[.int .i64 r.1, .slice ra1 r.2.1.length rc1, .slice ra2 r.2.2.length rc2]) r ∧ FieldAt UU (.agg #[.int .i64 f.1, .int .i64 f.2.1, .slice ao f.2.2.length cap]) f) := ⟨HW.out.1.trans kU, HW.out.2.1.kept kU, HW.out.2.2.kept kU⟩
      clear kU
      obtain ⟨B0, hB0⟩ : ∃ q, UU.heap.size = q := ⟨_, rfl⟩
      have hlX := HLx.out.lt
      have hwB := HW.out.1.size
      rw [hB0] at hlX hwB
      have HB0 : Hid (UU.heap.size = B0) := hB0
      clear hB0
      obtain ⟨i0, hi0, hz0, hz1, hz2⟩ := info_parts info_num
      go_loopw [11, 12, 108] (fun x a i wr => ∃ (k : Nat) (op : List Int) (P : Nat) (ao5 : Option Addr) (c5 : Nat), k ≤ f.2.2.length ∧ i = .int .i64 k ∧ x = .slice ao5 op.length c5 ∧ a = .int .i64 (P : Int) ∧ P ≤ 300 ∧ op.length ≤ 36 ∧ Hid (op = cutL (openB f.2.2) k ∧ P = sN ^ op.length) ∧ Hid (wr.ownsRow B0 3 1 (.slice ao5 op.length c5) op.length (op.flatMap numC)) ∧ Hid (Kept UU wr)) (fun x a i _ => f.2.2.length - (intOf i).toNat)
      case atStart => exact ⟨0, [], 1, none, 0, by omega, rfl, rfl, rfl, by omega, by simp, (⟨rfl, rfl⟩ : _ ∧ _), (World.ownsRow_nil _ _ _ _ : World.ownsRow _ _ _ _ _ _ _), But.refl _ _ _⟩
      case round =>
        obtain ⟨k, op, P, ao5, c5, hk, rfl, rfl, rfl, hP, hop, HE, HRow, HKr⟩ := hrel
        by_cases hlt : k < f.2.2.length
        · obtain ⟨t, ht⟩ : ∃ t, f.2.2[k]? = some t := ⟨_, List.getElem?_eq_getElem hlt⟩
          have htd : f.2.2.getD k 0 = t := by rw [List.getD_eq_getElem?_getD, ht]; rfl
          have htb := HG.out.2.2.2.2 k hlt t ht
          have hkr := HKr.out
          obtain ⟨p1, o1, q1, e, c1⟩ := num_get ((FieldAt.row HW.out.2.2).kept hkr) ht
          cases e
          have z1 : (0 : Int) ≤ (k : Int) := by omega
          have z2 : (k : Int) < (f.2.2.length : Int) := by omega
          have hBs : B0 ≤ wr.heap.size := by have := hkr.size; rw [HB0.out] at this; exact this
          clear hkr ht
          by_cases h0 : t < 0
          · have ht1 : t = -1 := by omega
            have hob : openB f.2.2 k = true := by unfold openB; rw [htd, ht1]; rfl
            have d1 : decide (t < 0) = true := by simp; omega
            have HOB : Hid (openB f.2.2 k = true) := hob
            have hop2 : op.length + 1 ≤ 36 := by
              have := cutL_len (openB f.2.2) (k + 1)
              rw [cutL_yes hob, ← HE.out.1, List.length_append] at this
              simp at this
              omega
            clear hob htd htb ht1
            repeat (first | (at_builtin; refine forgetL (fun w' => w' = _) rfl ?_) | go_values | go_skip | go_guarded | go_step | go_upon)
            intro W7 hW7
            have k7 : Kept wr W7 := by rw [hW7]; exact (But.refl _ _ _).alloc _
            have N7 : Loc W7 wr.heap.size [.int .i64 (k : Int)] := by rw [hW7]; exact Loc.new wr _ _
            have s7 := k7.size
            have hRow7 := own_kept HRow.out k7
            clear hW7 d1 c1
            refine wpList_append_own _ rfl _ _ 26 rfl B0 3 i0 (.int .i64 0) 1 8 Try.underlying26 hi0 hz0 hz1 hz2 rfl (by decide) (.slice ao5 op.length c5) op.length (op.flatMap numC) rfl hRow7 ⟨wr.heap.size, 0, none⟩ 1 1 [.int .i64 (k : Int)] rfl rfl (news1 N7) (by simp [Value.oneCell']) (by unfold maxLen; omega) (by omega) (by omega) ?_
            intro v' W8 hown' hgrow _
            obtain ⟨ao6, c6, hf6, _⟩ := own_form hown'
            subst hf6
            have k8 : Kept UU W8 := (HKr.out.trans k7).grown hgrow (fun x hx => by have := own_lt hRow7 hx; have := HB0.out; omega)
            have HK8 : Hid (Kept UU W8) := k8
            have HR8 : Hid (W8.ownsRow B0 3 1 (.slice ao6 (op.length + 1) c6) (op.length + 1) ((op ++ [(k : Int)]).flatMap numC)) := by
              have : W8.ownsRow B0 3 1 (.slice ao6 (op.length + 1) c6) (op.length + 1) ((op ++ [(k : Int)]).flatMap numC) := by
                rw [List.flatMap_append]; exact hown'
              exact this
            have hE2 : op ++ [(k : Int)] = cutL (openB f.2.2) (k + 1) ∧ P * sN = sN ^ (op ++ [(k : Int)]).length := by
              refine ⟨by rw [cutL_yes HOB.out, HE.out.1], ?_⟩
              rw [List.length_append, List.length_singleton, Nat.pow_succ, ← HE.out.2]
            have HE2 : Hid (op ++ [(k : Int)] = cutL (openB f.2.2) (k + 1) ∧ P * sN = sN ^ (op ++ [(k : Int)]).length) := hE2
            have a0 := (HLr.out.kept k8).cell 0 rfl
            rw [HSN.out] at a0
            have hPs : P * sN ≤ 300 * 6 := Nat.mul_le_mul hP hs6.2
            obtain ⟨PS, hPS⟩ : ∃ q, P * sN = q := ⟨_, rfl⟩
            have hmul : (P : Int) * (sN : Int) = (PS : Int) := by rw [← hPS]; simp
            have hmul2 : IntKind.i64.wrap ((P : Int) * (sN : Int)) = (PS : Int) := by rw [hmul, IntWalk.i64_in _ (by omega)]
            have HPS : Hid (P * sN = PS) := hPS
            have hPS2 : PS ≤ 1800 := by omega
            clear hPS hPs hE2 hown' hgrow hRow7 N7 k7 k8 HRow HKr HE HOB
            by_cases hbig : PS ≤ 300
            · have d3 : decide ((300 : Int) < (PS : Int)) = false := by simp; omega
              have d4 : decide (300 < PS) = false := by simp; omega
              dsimp only
              repeat (first | go_values | go_skip | go_guarded | go_step | go_upon)
              refine ⟨⟨k + 1, op ++ [(k : Int)], PS, ao6, c6, hlt, by go_num, by simp, rfl, hbig, by simp; omega, ?_, ?_, HK8⟩, by simp [intOf]; omega⟩
              · show op ++ [(k : Int)] = cutL (openB f.2.2) (k + 1) ∧ PS = sN ^ (op ++ [(k : Int)]).length
                exact ⟨HE2.out.1, by rw [← HE2.out.2]; exact HPS.out.symm⟩
              · show World.ownsRow _ _ _ _ _ _ _
                rw [List.length_append]; exact HR8.out
            · have d3 : decide ((300 : Int) < (PS : Int)) = true := by simp; omega
              have d4 : decide (300 < PS) = true := by simp; omega
              dsimp only
              repeat (first | go_values | go_skip | go_guarded | go_step | go_upon)
              go_ret
              exact ⟨rfl, HW.out.1.trans HK8.out⟩
          · have d1 : decide (t < 0) = false := by simp; omega
            have hob : openB f.2.2 k = false := by unfold openB; rw [htd]; exact decide_eq_false (by omega)
            have HOB : Hid (openB f.2.2 k = false) := hob
            clear hob htd htb
            repeat (first | go_values | go_skip | go_guarded | go_step | go_upon)
            exact ⟨⟨k + 1, op, P, ao5, c5, hlt, by go_num, rfl, rfl, hP, hop, (⟨by rw [cutL_no HOB.out]; exact HE.out.1, HE.out.2⟩ : _ ∧ _), HRow, HKr⟩, by simp [intOf]; omega⟩
        · have hke : k = f.2.2.length := by omega
          subst hke
          have hope : op = openL f.2.2 := HE.out.1
          subst hope
          have hPE : P = sN ^ (openL f.2.2).length := HE.out.2
          have HPE : Hid (P = sN ^ (openL f.2.2).length) := hPE
          clear hPE HE
          refine forgetC2 (fun u => Kept UU u ∧ NumAt u (.slice ao5 (openL f.2.2).length c5) (openL f.2.2)) ⟨HKr.out, own_row HRow.out⟩ ?_
          rintro U5 ⟨k5, hop5⟩
          have HLr : Hid (Loc U5 BR [.int .i64 r.1, .slice ra1 r.2.1.length rc1, .slice ra2 r.2.2.length rc2]) := HLr.out.kept k5
          have HLf : Hid (Loc U5 (BR + 1) [.int .i64 f.1, .int .i64 f.2.1, .slice ao f.2.2.length cap]) := HLf.out.kept k5
          have HLx : Hid (Loc U5 BX [.bool false, .int .i64 xw, .int .i64 xh, .slice ag XT.length cg, .int .i64 xt]) := HLx.out.kept k5
          have HOG : Hid (NumAt U5 (.slice ag XT.length cg) XT) := HOG.out.kept k5
          have HW : Hid (Kept w U5 ∧ RulesAt U5 (.agg #[.int .i64 r.1, .slice ra1 r.2.1.length rc1, .slice ra2 r.2.2.length rc2]) r ∧ FieldAt U5 (.agg #[.int .i64 f.1, .int .i64 f.2.1, .slice ao f.2.2.length cap]) f) := ⟨HW.out.1.trans k5, HW.out.2.1.kept k5, HW.out.2.2.kept k5⟩
          have HOP : Hid (NumAt U5 (.slice ao5 (openL f.2.2).length c5) (openL f.2.2)) := hop5
          have hs5 : B0 ≤ U5.heap.size := by have := k5.size; rw [HB0.out] at this; exact this
          clear k5 hop5 HKr HRow
          have x0 := HLx.out.cell 0 rfl
          have x4 := HLx.out.cell 4 rfl
          have b2 := HLf.out.cell 2 rfl
          have xl := HLx.out.lt
          have bl := HLf.out.lt
          by_cases h5 : xt = 5000
          · have d5 : (xt == 5000) = true := by simp [h5]
            repeat (first | go_values | go_skip | go_guarded | go_step | go_upon)
            go_ret
            exact ⟨rfl, HW.out.1⟩
          have d5 : (xt == 5000) = false := by simp [h5]
          have H5 : Hid ((false : Bool) = true ∨ xt ≠ 5000) := .inr h5
          clear h5
          repeat (first | (at_builtin; refine forgetL (fun w' => w' = _) rfl ?_) | go_values | go_skip | go_guarded | go_step | go_upon)
          intro W7 hW7
          subst hW7
          refine wpList_append_any _ rfl _ _ 26 rfl U5.heap.size 3 i0 (.int .i64 0) 1 8 Try.underlying26 hi0 hz0 hz1 hz2 rfl (by decide) _ _ _ rfl (own_new U5 3) ao f.2.2.length cap (f.2.2.flatMap numC) rfl (flat_len 1 numC numC_len f.2.2) (row_src ((FieldAt.row HW.out.2.2).kept ((But.refl _ _ _).alloc _))) (ones f.2.2) (by unfold maxLen; omega) (by omega) (by simp) ?_
          intro v' U7 hown hgrow
          obtain ⟨aot, ct, hf5, _⟩ := own_form hown
          subst hf5
          have k7 : Kept U5 U7 := ((But.refl _ _ U5).alloc (.cells #[] 3)).grown hgrow (by intro x hx; cases hx; simp)
          have hT : NumO U7 U5.heap.size U7.heap.size (.slice aot f.2.2.length ct) f.2.2 := by
            rw [Nat.zero_add, List.nil_append] at hown
            exact RowO.top hown
          rw [Nat.zero_add]
          clear hown hgrow x0 x4 b2 xl bl
          obtain ⟨lo7, hlo7⟩ : ∃ q, U5.heap.size = q := ⟨_, rfl⟩
          obtain ⟨hi7, hhi7⟩ : ∃ q, U7.heap.size = q := ⟨_, rfl⟩
          rw [hlo7, hhi7] at hT
          rw [hlo7] at hs5
          have HT : Hid (NumO U7 lo7 hi7 (.slice aot f.2.2.length ct) f.2.2) := hT
          have HK7 : Hid (Kept U5 U7) := k7
          have HLO : Hid (U5.heap.size = lo7) := hlo7
          clear hT k7 hlo7 hhi7
          dsimp only
          repeat (first | go_values | go_skip | go_guarded | go_step | go_upon)
          go_loopw [16] (fun i wr => ∃ (n : Nat) (T : List Int), n ≤ P ∧ i = .int .i64 n ∧ Hid (NumO wr lo7 hi7 (.slice aot f.2.2.length ct) T ∧ Off f.2.2 T) ∧ Hid (∀ j, j < n → ¬ HoldsP r (f.1, f.2.1, nthL sN f.2.2 j)) ∧ Hid (Kept U5 wr)) (fun i _ => P - (intOf i).toNat)
          case atStart => exact ⟨0, f.2.2, by omega, rfl, (⟨HT.out, rfl, fun i hi h0 => rfl⟩ : _ ∧ _), (fun j hj => by omega : ∀ j, j < 0 → ¬ HoldsP r (f.1, f.2.1, nthL sN f.2.2 j)), HK7⟩
          case round =>
            obtain ⟨n, T, hn, rfl, HT, HNO, HK5⟩ := hrel
            by_cases hlt : n < P
            · have d1 : decide ((n : Int) < (P : Int)) = true := by simp; omega
              have d2 : decide (n < P) = true := by simp; omega
              have hKl : (openL f.2.2).length ≤ 36 := hop
              obtain ⟨K, hK⟩ : ∃ K, (openL f.2.2).length = K := ⟨_, rfl⟩
              have HKe : Hid (((openL f.2.2).length : Int) = (K : Int)) := by show _ = _; omega
              have hw1 : IntKind.i64.wrap (((openL f.2.2).length : Int) - 1) = (K : Int) - 1 := by rw [IntWalk.i64_in _ (by omega)]; omega
              have hw2 : ((openL f.2.2).length : Int) - 1 = (K : Int) - 1 := by omega
              have HKn : Hid ((openL f.2.2).length = K) := hK
              have hK36 : K ≤ 36 := by omega
              clear hK
              repeat (first | go_values | go_skip | go_guarded | go_step | go_upon)
              clear d1 d2 hw1 hw2
              go_loopw [17, 18] (fun a b wr => ∃ (c : Nat) (z : Int) (M : Nat) (T : List Int), c ≤ K ∧ a = .int .i64 (M : Int) ∧ b = .int .i64 z ∧ M ≤ 300 ∧ Hid (M = n / sN ^ c ∧ z = (K : Int) - 1 - (c : Int)) ∧ Hid (NumO wr lo7 hi7 (.slice aot f.2.2.length ct) T ∧ Off f.2.2 T ∧ Digs sN n f.2.2 T c) ∧ Hid (Kept U5 wr)) (fun a b _ => (intOf b + 1).toNat)
              case atStart => exact ⟨0, _, n, T, by omega, rfl, rfl, by omega, (⟨by simp, by simp⟩ : _ ∧ _), (⟨HT.out.1, HT.out.2, Digs.start _ _ _ _⟩ : _ ∧ _ ∧ _), HK5⟩
              case round =>
                clear HT HK5
                obtain ⟨c, z, M, T, hc, rfl, rfl, hM, HE, HT, HK5⟩ := hrel
                by_cases hcl : c < K
                · obtain ⟨J, hJ⟩ : ∃ J : Nat, z = (J : Int) := ⟨z.toNat, by have := HE.out.2; omega⟩
                  subst hJ
                  have hJe : J = K - 1 - c := by have := HE.out.2; omega
                  have hJl : J < (openL f.2.2).length := by rw [HKn.out]; omega
                  have HJ : Hid (J = (openL f.2.2).length - 1 - c) := by show _ = _; rw [HKn.out]; exact hJe
                  obtain ⟨hp1, hp2, hp3⟩ := plc_get hJl
                  obtain ⟨po, oo, qo, e, co⟩ := num_get (HOP.out.kept HK5.out) hp1
                  cases e
                  have hTl : T.length = f.2.2.length := HT.out.2.1.1
                  obtain ⟨y0, hy0⟩ : ∃ y, T[plc f.2.2 J]? = some y := ⟨_, List.getElem?_eq_getElem (by rw [hTl]; exact hp2)⟩
                  have HY0 : Hid (T[plc f.2.2 J]? = some y0) := hy0
                  obtain ⟨gt, ot, qt, e, ct0⟩ := num_get HT.out.1.at hy0
                  rw [hTl] at e
                  cases e
                  obtain ⟨g', cap', hfm⟩ : ∃ g cap', Value.slice (some ⟨gt, ot, none⟩) f.2.2.length ct = .slice (some ⟨g, 0, none⟩) f.2.2.length cap' := by
                    rcases HT.out.1.1.2 with ⟨hf, _⟩ | ⟨g, c2, cur, hf, _⟩
                    · cases hf
                    · rw [hTl] at hf; exact ⟨g, c2, hf⟩
                  cases hfm
                  have hgt : lo7 ≤ gt ∧ gt < hi7 := ⟨(own_lt HT.out.1.1 (g := gt) rfl).1, HT.out.1.2 gt rfl⟩
                  obtain ⟨d0, dz⟩ := HT.out.1.cells hy0
                  obtain ⟨Q, hQ⟩ : ∃ q, plc f.2.2 J = q := ⟨_, rfl⟩
                  have HQ : Hid (plc f.2.2 J = Q) := hQ
                  rw [hQ] at d0 co hp2
                  have dz0 := dz Q
                  have a0 := (HLr.out.kept HK5.out).cell 0 rfl
                  rw [HSN.out] at a0
                  have hpo : po < lo7 := by
                    obtain ⟨b9, o9, q9, e9, c9⟩ := num_get HOP.out hp1
                    cases e9
                    have h1 := block_of_cell c9
                    rw [HLO.out] at h1
                    exact h1
                  have hne1 : po ≠ gt := by omega
                  have hne2 : gt ≠ po := by omega
                  have hne3 : BR ≠ gt := by omega
                  have hne4 : gt ≠ BR := by omega
                  have y1 : (0 : Int) ≤ (J : Int) := by omega
                  have y2 : (J : Int) < ((openL f.2.2).length : Int) := by omega
                  have y3 : (0 : Int) ≤ (Q : Int) := by omega
                  have y4 : (Q : Int) < (f.2.2.length : Int) := by omega
                  have m1 : ((sN : Int) == 0) = false := by simp; omega
                  have m1' : (sN : Int) ≠ 0 := by omega
                  have m4 : ((M % sN : Nat) : Int) = (M : Int) % (sN : Int) := by simp
                  have m5 : ((M / sN : Nat) : Int) = (M : Int) / (sN : Int) := by simp
                  obtain ⟨MR, hMR⟩ : ∃ q, M % sN = q := ⟨_, rfl⟩
                  obtain ⟨MD, hMD⟩ : ∃ q, M / sN = q := ⟨_, rfl⟩
                  have hMRl : MR ≤ 300 := by have := Nat.mod_le M sN; omega
                  have hMDl : MD ≤ 300 := by have := Nat.div_le_self M sN; omega
                  rw [hMR] at m4
                  rw [hMD] at m5
                  have m2 : IntKind.i64.wrap (Int.tmod (M : Int) (sN : Int)) = (MR : Int) := by rw [Int.tmod_eq_emod_of_nonneg (by omega), ← m4, IntWalk.i64_in _ (by omega)]
                  have m3 : IntKind.i64.wrap (Int.tdiv (M : Int) (sN : Int)) = (MD : Int) := by rw [Int.tdiv_eq_ediv_of_nonneg (by omega), ← m5, IntWalk.i64_in _ (by omega)]
                  have m6 : (M : Int) % (sN : Int) = (MR : Int) := m4.symm
                  have m7 : (M : Int) / (sN : Int) = (MD : Int) := m5.symm
                  have HMM : Hid (M % sN = MR ∧ M / sN = MD) := ⟨hMR, hMD⟩
                  clear m4 m5 hMR hMD
                  clear hy0 hQ dz hp1 hp3 hJe ct0
                  repeat (first | go_values | go_skip | go_guarded | go_step | go_upon)
                  have KD : Kept wr wr.drew := (But.refl _ _ _).drew
                  have hSa : (fun w' => w'.cell? ⟨po, oo + J, none⟩ = some (.int .i64 (Q : Int)) ∧ w'.cell? ⟨BR, 0, none⟩ = some (.int .i64 (sN : Int))) wr.drew := ⟨Kept.cell KD co, Kept.cell KD a0⟩
                  have q0 : wr.drew.cell? ⟨gt, Q, none⟩ = some (.int .i64 y0) := Kept.cell KD d0
                  have qf : wr.drew.frozen? ⟨gt, Q, none⟩ = false := dz0
                  have kb9 : But gt (gt + 1) wr.drew (wr.drew.setCell ⟨gt, Q, none⟩ (.int .i64 (MR : Int))) := (But.refl _ _ _).setCell (by simp) (by simp) _
                  have hSd : (fun w' => w'.cell? ⟨po, oo + J, none⟩ = some (.int .i64 (Q : Int)) ∧ w'.cell? ⟨BR, 0, none⟩ = some (.int .i64 (sN : Int))) (wr.drew.setCell ⟨gt, Q, none⟩ (.int .i64 (MR : Int))) := ⟨But.cell kb9 hSa.1 (by show po < gt ∨ gt + 1 ≤ po; omega), But.cell kb9 hSa.2 (by show BR < gt ∨ gt + 1 ≤ BR; omega)⟩
                  refine wp_region_Z (fun w' => w'.cell? ⟨po, oo + J, none⟩ = some (.int .i64 (Q : Int)) ∧ w'.cell? ⟨BR, 0, none⟩ = some (.int .i64 (sN : Int))) 99 (by kernel_rfl) ?_
                  refine wpAnyZ_take (i := 0) (v := .slice (some ⟨gt, 0, none⟩) f.2.2.length ct) rfl (by kernel_rfl) (by kernel_rfl) (by kernel_rfl) (by kernel_rfl) (fun _ _ _ h => h) (Or.inl ⟨by rfl, ?_⟩) hSa ?_
                  · intro w' hSw; obtain ⟨s0, s1⟩ := hSw; go_simp
                  try simp only [Act.put]
                  refine wpAnyZ_take (i := 1) (v := .slice (some ⟨po, oo, none⟩) (openL f.2.2).length c5) rfl (by kernel_rfl) (by kernel_rfl) (by kernel_rfl) (by kernel_rfl) (fun _ _ _ h => h) (Or.inl ⟨by rfl, ?_⟩) hSa ?_
                  · intro w' hSw; obtain ⟨s0, s1⟩ := hSw; go_simp
                  try simp only [Act.put]
                  refine wpAnyZ_take (i := 2) (v := .int .i64 (J : Int)) rfl (by kernel_rfl) (by kernel_rfl) (by kernel_rfl) (by kernel_rfl) (fun _ _ _ h => h) (Or.inl ⟨by rfl, ?_⟩) hSa ?_
                  · intro w' hSw; obtain ⟨s0, s1⟩ := hSw; go_simp
                  try simp only [Act.put]
                  refine wpAnyZ_take (i := 3) (v := .pointer (some ⟨po, oo + J, none⟩)) rfl (by kernel_rfl) (by kernel_rfl) (by kernel_rfl) (by kernel_rfl) (fun _ _ _ h => h) (Or.inl ⟨by rfl, ?_⟩) hSa ?_
                  · intro w' hSw; obtain ⟨s0, s1⟩ := hSw; go_simp
                  try simp only [Act.put]
                  refine wpAnyZ_take (i := 4) (v := .int .i64 (Q : Int)) rfl (by kernel_rfl) (by kernel_rfl) (by kernel_rfl) (by kernel_rfl) (fun _ _ _ h => h) (Or.inl ⟨by rfl, ?_⟩) hSa ?_
                  · intro w' hSw; obtain ⟨s0, s1⟩ := hSw; go_simp
                  try simp only [Act.put]
                  refine wpAnyZ_take (i := 5) (v := .int .i64 (M : Int)) rfl (by kernel_rfl) (by kernel_rfl) (by kernel_rfl) (by kernel_rfl) (fun _ _ _ h => h) (Or.inl ⟨by rfl, ?_⟩) hSa ?_
                  · intro w' hSw; obtain ⟨s0, s1⟩ := hSw; go_simp
                  try simp only [Act.put]
                  refine wpAnyZ_take (i := 6) (v := .pointer (some ⟨BR, 0, none⟩)) rfl (by kernel_rfl) (by kernel_rfl) (by kernel_rfl) (by kernel_rfl) (fun _ _ _ h => h) (Or.inl ⟨by rfl, ?_⟩) hSa ?_
                  · intro w' hSw; obtain ⟨s0, s1⟩ := hSw; go_simp
                  try simp only [Act.put]
                  refine wpAnyZ_take (i := 7) (v := .int .i64 (sN : Int)) rfl (by kernel_rfl) (by kernel_rfl) (by kernel_rfl) (by kernel_rfl) (fun _ _ _ h => h) (Or.inl ⟨by rfl, ?_⟩) hSa ?_
                  · intro w' hSw; obtain ⟨s0, s1⟩ := hSw; go_simp
                  try simp only [Act.put]
                  refine wpAnyZ_one (i := 8) (by kernel_rfl) rfl ?_
                  intro K8 hK8
                  rw [if_pos (by rfl)]
                  repeat (first | go_values | go_skip | go_guarded | go_step | go_upon)
                  refine hK8.out _ _ (fun _ => hSa) ?_
                  clear hK8 K8
                  try simp only [Act.put]
                  refine wpAnyZ_take (i := 9) (v := .pointer (some ⟨gt, Q, none⟩)) rfl (by kernel_rfl) (by kernel_rfl) (by kernel_rfl) (by kernel_rfl) (fun _ _ _ h => h) (Or.inl ⟨by rfl, ?_⟩) hSa ?_
                  · intro w' hSw; obtain ⟨s0, s1⟩ := hSw; go_simp
                  try simp only [Act.put]
                  refine wpAnyZ_one (i := 10) (by kernel_rfl) rfl ?_
                  intro K8 hK8
                  rw [if_pos (by rfl)]
                  go_simp
                  refine hK8.out _ _ (fun _ => hSd) ?_
                  clear hK8 K8
                  refine wpAnyZ_done (by kernel_rfl) ?_ _
                  try simp only [Act.put]
                  clear hSa hSd kb9 KD q0 qf
                  have hw3 : IntKind.i64.wrap ((J : Int) - 1) = (J : Int) - 1 := by rw [IntWalk.i64_in _ (by omega)]
                  repeat (first | go_values | go_skip | go_guarded | go_step | go_upon)
                  have hset := HT.out.1.set (hTl.symm) (show T[Q]? = some y0 by rw [← HQ.out]; exact HY0.out) (MR : Int)
                  refine ⟨⟨c + 1, (J : Int) - 1, MD, T.set Q (MR : Int), by omega, rfl, rfl, hMDl, ?_, ?_, ?_⟩, by first | (simp [intOf]; done) | (simp [intOf]; omega)⟩
                  · show MD = n / sN ^ (c + 1) ∧ (J : Int) - 1 = (K : Int) - 1 - ((c + 1 : Nat) : Int)
                    refine ⟨?_, by have := HE.out.2; omega⟩
                    rw [Nat.pow_succ, ← Nat.div_div_eq_div_mul, ← HE.out.1]
                    exact HMM.out.2.symm
                  · show NumO _ lo7 hi7 _ (T.set Q (MR : Int)) ∧ Off f.2.2 (T.set Q (MR : Int)) ∧ Digs sN n f.2.2 (T.set Q (MR : Int)) (c + 1)
                    have hst := Digs.step HT.out.2.1 HT.out.2.2 (show c < (openL f.2.2).length by rw [HKn.out]; exact hcl)
                    rw [← HJ.out, HQ.out, ← HE.out.1, HMM.out.1] at hst
                    have hof := HT.out.2.1.set hJl (MR : Int)
                    rw [HQ.out] at hof
                    exact ⟨hset.kept (by (repeat (first | with_reducible exact But.refl _ _ _ | with_reducible apply But.drewN | with_reducible apply But.drew))), hof, hst⟩
                  · show Kept U5 _
                    (repeat (first | with_reducible exact HK5.out | with_reducible apply But.drewN | with_reducible apply But.drew | (with_reducible refine But.setNew ?_ (by have := HLO.out; simp; omega) _)))
                · have hce : c = K := by omega
                  subst hce
                  have hTn : T = nthL sN f.2.2 n := Digs.done HT.out.2.1 (by rw [HKn.out]; exact HT.out.2.2)
                  subst hTn
                  have HTn : Hid (NumO wr lo7 hi7 (.slice aot f.2.2.length ct) (nthL sN f.2.2 n)) := HT.out.1
                  have HOF : Hid (Off f.2.2 (nthL sN f.2.2 n)) := HT.out.2.1
                  have hz : z = -1 := by have := HE.out.2; omega
                  subst hz
                  clear HT HE
                  have a0 := (HLr.out.kept HK5.out).cell 0 rfl
                  have a1 := (HLr.out.kept HK5.out).cell 1 rfl
                  have a2 := (HLr.out.kept HK5.out).cell 2 rfl
                  have b0 := (HLf.out.kept HK5.out).cell 0 rfl
                  have b1 := (HLf.out.kept HK5.out).cell 1 rfl
                  have hr1 : r.1.toNat = sN := by have := HSN.out; omega
                  have HR1 : Hid (r.1.toNat = sN) := hr1
                  have hgF : GoodP r (f.1, f.2.1, nthL sN f.2.2 n) := by
                    refine ⟨HG.out.1, ?_⟩
                    have := (nthL_comp (n := n) (show FieldP r.1 (f.1, f.2.1, f.2.2) from HG.out.2) HG.out.1.1.1).fld (show FieldP r.1 (f.1, f.2.1, f.2.2) from HG.out.2)
                    rw [HR1.out] at this
                    exact this
                  have HGF : Hid (GoodP r (f.1, f.2.1, nthL sN f.2.2 n)) := hgF
                  clear hr1 hgF
                  repeat (first | go_values | go_skip | go_guarded | go_step | go_upon)
                  go_at_call 14
                  refine (sholds _ _ r (f.1, f.2.1, nthL sN f.2.2 n) _ (HW.out.2.1.kept HK5.out) ⟨_, rfl, HTn.out.at⟩ (by omega) (by show (nthL sN f.2.2 n).length ≤ 1048576; rw [nthL_len]; omega)).mono ?_
                  rintro e u9 ⟨rfl, k9⟩
                  have HK9 : Hid (Kept U5 u9) := HK5.out.trans k9
                  have HT9 : Hid (NumO u9 lo7 hi7 (.slice aot f.2.2.length ct) (nthL sN f.2.2 n)) := HTn.out.kept k9
                  clear k9 HK5 HTn a0 a1 a2 b0 b1
                  by_cases hh : HoldsP r (f.1, f.2.1, nthL sN f.2.2 n)
                  · have hfir := HFX.out.first H5.out n (by rw [HR1.out, ← HPE.out]; exact hlt) (by rw [HR1.out]; exact HNO.out) (by rw [HR1.out]; exact hh)
                    rw [dec_yes ⟨HGF.out, hh⟩]
                    clear hh
                    exact absurd hfir.1 (by simp)
                  · have HHN : Hid (¬ HoldsP r (f.1, f.2.1, nthL sN f.2.2 n)) := hh
                    rw [dec_no (fun h => hh h.2)]
                    clear hh
                    dsimp only
                    repeat (first | go_values | go_skip | go_guarded | go_step | go_upon)
                    refine ⟨⟨n + 1, nthL sN f.2.2 n, hlt, by go_num, ?_, ?_, HK9⟩, by simp [intOf]; omega⟩
                    · exact (⟨HT9.out, HOF.out⟩ : _ ∧ _)
                    · show ∀ j, j < n + 1 → ¬ HoldsP r (f.1, f.2.1, nthL sN f.2.2 j)
                      intro j hj
                      by_cases e : j = n
                      · rw [e]; exact HHN.out
                      · exact HNO.out j (by omega)
            · have hne : n = P := by omega
              subst hne
              have hr1 : r.1.toNat = sN := by have := HSN.out; omega
              have hnone := HFX.out.none (by rw [hr1, ← HPE.out]; exact HNO.out)
              dsimp only at hnone
              have x0 := (HLx.out.kept HK5.out).cell 0 rfl
              have d1 : decide ((n : Int) < (n : Int)) = false := by simp
              repeat (first | go_values | go_skip | go_guarded | go_step | go_upon)
              go_ret
              exact ⟨rfl, HW.out.1.trans HK5.out⟩

end Go.Proofs.Ytopakblckajdmaa
