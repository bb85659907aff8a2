/-
  What RunMusic answers in the specification.
-/
import Derived.Test.YtapfafibhjpkdaaDoorRunA15
import Derived.Test.YtapfafibhjpkdaaDoorCont15
import Derived.Test.YtapfafibhjpkdaaDoorSMus15
namespace Go.Proofs.YtapfafibhjpkdaaDoor
open Go.ChangeShapes Go.WideShapes Go.ChangeAt Go.RowKit

set_option maxRecDepth 100000
set_option linter.unusedVariables false

set_option maxHeartbeats 8000000 in
theorem srun (l : List SectionD) (ao : Option Addr) (cap : Nat) (m0 : ByteArray) (m1 : Int) (m2 : ByteArray) (B : Int) (w : World) (hv : SecsAt w (.slice ao l.length cap) l) (hcap : l.length ≤ cap ∧ cap ≤ 9223372036854775807) (hn : secsCost l ≤ 1048576) (N : Nat) (hB : B = (N : Int)) (hN : N ≤ 1000) (hM : MusicP l (m0, m1, m2)) :
    Calls Tryd.prog 6 #[.slice ao l.length cap, .agg #[.string m0, .int .i64 m1, .string m2], .int .i64 B] w fun e w' => ∃ v', e = .returned (.tuple #[.agg #[.string (runS l (m0, m1, m2) N).1.1, .int .i64 (runS l (m0, m1, m2) N).1.2.1, .string (runS l (m0, m1, m2) N).1.2.2], v', .bool true]) ∧ TxtO w' w.heap.size w'.heap.size v' (runS l (m0, m1, m2) N).2 ∧ Kept w w' := by
  subst hB
  have K0 : Kept w ((w.alloc (.cells #[.string m0, .int .i64 m1, .string m2] 27)).alloc (.cells #[.string ⟨#[]⟩, .int .i64 0, .string ⟨#[]⟩] 27)) := ((But.refl _ _ _).alloc _).alloc _
  have hln : l.length ≤ 1048576 := by unfold secsCost at hn; omega
  have hmus := hM.2
  have hS := hM.1
  have q1 := dec_yes hM
  have dB : decide (0 ≤ (N : Int) ∧ (N : Int) ≤ 1000) = true := decide_eq_true (by omega)
  obtain ⟨i0, hi0, hz0', hz1', hz2'⟩ := info_parts info_txt
  have hcs : Hid (∀ d ∈ l, d.1.size ≤ 1048576 ∧ d.2.2.1.length ≤ 1048576) := fun d hd => by
    have := secs_one hd
    unfold secsOne at this
    omega
  go_enter Tryd.func6, Tryd.ntmps6
  repeat (first | go_values | go_skip | go_guarded | go_step | go_upon)
  go_at_call 17
  refine (smusic l ao cap m0 m1 m2 _ (hv.kept K0) hcap hn).mono ?_
  rintro e W1 ⟨rfl, k1⟩
  rw [q1]
  have K1 := K0.trans k1
  have L1 := ((Loc.new w [.string m0, .int .i64 m1, .string m2] 27).alloc (.cells #[.string ⟨#[]⟩, .int .i64 0, .string ⟨#[]⟩] 27)).kept k1
  have Z1 := (Loc.new (w.alloc (.cells #[.string m0, .int .i64 m1, .string m2] 27)) [.string ⟨#[]⟩, .int .i64 0, .string ⟨#[]⟩] 27).kept k1
  simp only [World.size_alloc] at Z1
  have hz1 := Z1.lt
  have hz0 := L1.lt
  have HW1 : Hid (Kept w W1) := K1
  have HL1 : Hid (Loc W1 w.heap.size [.string m0, .int .i64 m1, .string m2] ∧ Loc W1 (w.heap.size + 1) [.string ⟨#[]⟩, .int .i64 0, .string ⟨#[]⟩]) := ⟨L1, Z1⟩
  clear K0 k1 K1 L1 Z1
  dsimp only
  repeat (first | (go_at_call 18; refine (sInG _ _ _ _).mono ?_; rintro e w' ⟨rfl, hw'⟩; rw [hw', dB]; clear hw'; dsimp only) | go_values | go_skip | go_guarded | go_step | go_upon)
  clear dB
  have hVB : ∀ W, But w.heap.size (w.heap.size + 1) W1 W → SecsAt W (.slice ao l.length cap) l := fun W hb => hv.kept (But.onto HW1.out hb (Nat.le_refl _))
  go_loopw [2, 9] (fun b e wr => ∃ (k : Nat) (ao' : Option Addr) (c' : Nat), k ≤ N ∧ b = .int .i64 ((N : Int) - (k : Int)) ∧ e = .slice ao' k c' ∧ wr.ownsRow W1.heap.size 9 1 (.slice ao' k c') k ((runS l (m0, m1, m2) k).2.flatMap txtC) ∧ Loc wr w.heap.size [.string (runS l (m0, m1, m2) k).1.1, .int .i64 (runS l (m0, m1, m2) k).1.2.1, .string (runS l (m0, m1, m2) k).1.2.2] ∧ Loc wr (w.heap.size + 1) [.string ⟨#[]⟩, .int .i64 0, .string ⟨#[]⟩] ∧ But w.heap.size (w.heap.size + 1) W1 wr) (fun b e _ => (intOf b).toNat)
  case atStart => exact ⟨0, none, 0, by omega, by simp, rfl, World.ownsRow_nil _ _ _ _, HL1.out.1, HL1.out.2, But.refl _ _ _⟩
  case round =>
    obtain ⟨k, ao', c', hk, rfl, rfl, hown, LB, ZB, hbk⟩ := hrel
    have hok := run_ok hS hmus k
    have hsw := hbk.size
    by_cases hlt : k < N
    · have hltB : decide (0 < (N : Int) - (k : Int)) = true := by simp; omega
      have HR0 : Hid (runS l (m0, m1, m2) (k + 1) = (nextM l (leaveM l (runS l (m0, m1, m2) k).1), (runS l (m0, m1, m2) k).2 ++ [heardT (leaveM l (runS l (m0, m1, m2) k).1)])) := rfl
      obtain ⟨XS, hXS⟩ : ∃ x, (runS l (m0, m1, m2) k).2 = x := ⟨_, rfl⟩
      have hXl : XS.length = k := by rw [← hXS]; exact run_len _ _ _
      obtain ⟨mk, hmk⟩ : ∃ x, (runS l (m0, m1, m2) k).1 = x := ⟨_, rfl⟩
      rw [hXS] at hown HR0
      rw [hmk] at LB HR0 hok
      obtain ⟨b0, b1, b2⟩ := mk
      have HLK : Hid (MusOk l (leaveM l (b0, b1, b2))) := leave_ok hS hok
      have hok' := hok
      obtain ⟨kd, d, hfs, hd, hbt, hwt⟩ := hok'
      have hsd0 := secD_at hfs hd
      dsimp only at LB hfs hbt hwt hsd0
      have HFX : Hid (∀ W, SecsAt W (.slice ao l.length cap) l → Calls Tryd.prog 19 #[.slice ao l.length cap, .string b0] W fun e w' => e = .returned (.int .i64 (kd : Int)) ∧ Kept W w') := fun W h => by have := ssec l b0 _ W h hln; rw [hfs] at this; exact this
      clear hmk hXS
      have f0 := LB.cell 0 rfl
      have f1 := LB.cell 1 rfl
      have f2 := LB.cell 2 rfl
      have hgb := LB.lt
      have HOW : Hid (wr.ownsRow W1.heap.size 9 1 (.slice ao' k c') k (XS.flatMap txtC)) := hown
      have HZB : Hid (Loc wr (w.heap.size + 1) [.string ⟨#[]⟩, .int .i64 0, .string ⟨#[]⟩]) := ZB
      have HBK : Hid (But w.heap.size (w.heap.size + 1) W1 wr) := hbk
      have HGB : Hid (∀ g, (Value.slice ao' k c').ownBlock = some g → g < wr.heap.size) := fun g hg => (own_lt HOW.out hg).2
      have HV : SecsAt wr (.slice ao l.length cap) l := hVB wr hbk
      clear hown ZB hbk
      repeat (first | go_values | go_skip | go_guarded | go_step | go_upon)
      go_at_call 19
      refine (HFX.out _ HV).mono ?_
      rintro e w2 ⟨rfl, k2⟩
      have L2 := LB.kept k2
      have hks := k2.size
      have HV2 := HV.kept k2
      obtain ⟨bb, o, cap', s, ee, c0, c1, c2, c3, hka⟩ := HV2.get hd
      cases ee
      have hkl : kd < l.length := (List.getElem?_eq_some_iff.1 hd).1
      have hl2 := (hcs.out _ (List.mem_of_getElem? hd)).2
      obtain ⟨d0, d1, d2, d3⟩ := d
      dsimp only at c0 c1 c2 c3 hka hl2 hbt
      obtain ⟨a3, p3, hsl⟩ := row_nil hka
      subst hsl
      have z0 : (0 : Int) ≤ (kd : Int) := by omega
      have z1 : (kd : Int) < (l.length : Int) := by omega
      have hgw : bb < w2.heap.size := World.block_lt_of_cell? _ _ c0
      have hgb2 := L2.lt
      have e0 := L2.cell 0 rfl
      have e1x := L2.cell 1 rfl
      have e2 := L2.cell 2 rfl
      have hE := emptyL b2
      have HK2 : Hid (Kept wr w2) := k2
      have HL2 : Hid (Loc w2 w.heap.size [.string b0, .int .i64 b1, .string b2]) := L2
      have HNA : Hid (NumAt w2 (.slice a3 d2.length p3) d2) := hka
      have NS := (Loc.new w2 [.string d0, .int .i64 d1, .slice a3 d2.length p3, .string d3] 46)
      have HNS : Hid (Loc (w2.alloc (.cells #[.string d0, .int .i64 d1, .slice a3 d2.length p3, .string d3] 46)) w2.heap.size [.string d0, .int .i64 d1, .slice a3 d2.length p3, .string d3]) := NS
      clear LB f0 f1 f2 hka k2 L2 HV NS
      dsimp only
      cases q5 : emptyB b2 with
      | true =>
        rw [q5] at hE
        have HT0 : Hid (leaveM l (b0, b1, b2) = (b0, b1, b2)) := by show _ = _; unfold leaveM; rw [if_neg (fun h => by simp [q5] at h)]
        have hsd := hsd0
        obtain ⟨p0, rfl⟩ : ∃ x, x = b0 := ⟨_, rfl⟩
        obtain ⟨p2, rfl⟩ : ∃ x, x = b2 := ⟨_, rfl⟩
        have HR : Hid (runS l (m0, m1, m2) (k + 1) = (nextM l (p0, b1, p2), XS ++ [heardT (p0, b1, p2)])) := by show _ = _; have := HR0.out; rw [HT0.out] at this; exact this
        have hlk : MusOk l (p0, b1, p2) := by have := HLK.out; rw [HT0.out] at this; exact this
        obtain ⟨hps, nn, hnn1, hnn2⟩ := mus_size hn hlk
        have hnn := hnn2 hS
        dsimp only at hps hnn1
        subst hnn1
        have hsz9 : ¬ 9223372036854775807 < p0.size + 1 := by omega
        have hsz8 : (p0 ++ ⟨#[58]⟩).size = p0.size + 1 := by rw [ByteArray.size_append]; rfl
        have hnt := numT_size nn
        have hsz7 : ¬ 9223372036854775807 < p0.size + 1 + (numT nn).size := by omega
        have HY0 : Hid (Loc (w2.alloc (.cells #[.string d0, .int .i64 d1, .slice a3 d2.length p3, .string d3] 46)) w.heap.size [.string p0, .int .i64 (nn : Int), .string p2]) := HL2.out.alloc _
        have HS0 : Hid (Loc (w2.alloc (.cells #[.string d0, .int .i64 d1, .slice a3 d2.length p3, .string d3] 46)) w2.heap.size [.string d0, .int .i64 d1, .slice a3 d2.length p3, .string d3]) := HNS.out
        have HB0 : Hid (But w.heap.size (w.heap.size + 1) wr (w2.alloc (.cells #[.string d0, .int .i64 d1, .slice a3 d2.length p3, .string d3] 46))) := (But.of HK2.out).alloc _
        repeat (first | go_values | go_skip | go_guarded | go_step | go_upon)
        generalize (w2.alloc (.cells #[.string d0, .int .i64 d1, .slice a3 d2.length p3, .string d3] 46)) = Y at *
        have HOY : Hid (Y.ownsRow W1.heap.size 9 1 (.slice ao' k c') k (XS.flatMap txtC)) := own_but HOW.out HB0.out (fun g hg => by have := own_lt HOW.out hg; omega)
        have YL : Hid (Loc Y w.heap.size [.string p0, .int .i64 (nn : Int), .string p2]) := HY0.out
        have SL : Hid (Loc Y w2.heap.size [.string d0, .int .i64 d1, .slice a3 d2.length p3, .string d3]) := HS0.out
        have ZL : Hid (Loc Y (w.heap.size + 1) [.string ⟨#[]⟩, .int .i64 0, .string ⟨#[]⟩]) := HZB.out.but HB0.out (by omega)
        have HBY : Hid (But w.heap.size (w.heap.size + 1) W1 Y) := HBK.out.trans HB0.out
        have hYs := HBY.out.size
        clear HY0 HS0 HB0 HOW HZB HBK
        clear HK2 HL2 HNS HNA c0 c1 c2 c3 e0 e1x e2
        refine wp_region_Z (fun w' => w'.cell? ⟨w.heap.size, 0, none⟩ = some (.string p0) ∧ w'.cell? ⟨w.heap.size, 1, none⟩ = some (.int .i64 (nn : Int))) 10 (by kernel_rfl) ?_
        have hS9 : (fun w' => w'.cell? ⟨w.heap.size, 0, none⟩ = some (.string p0) ∧ w'.cell? ⟨w.heap.size, 1, none⟩ = some (.int .i64 (nn : Int))) Y.drew := ⟨by have := YL.out.cell 0 rfl; simpa using this, by have := YL.out.cell 1 rfl; simpa using this⟩
        refine wpAnyZ_take (i := 0) (v := .slice ao' k c') rfl (by kernel_rfl) (by kernel_rfl) (by kernel_rfl) (by kernel_rfl) (fun _ _ _ h => h) (Or.inl ⟨by rfl, ?_⟩) hS9 ?_
        · intro w' hSw; obtain ⟨s0, s1⟩ := hSw; go_simp
        try simp only [Act.put]
        refine wpAnyZ_take (i := 1) (v := .pointer (some ⟨w.heap.size, 0, none⟩)) rfl (by kernel_rfl) (by kernel_rfl) (by kernel_rfl) (by kernel_rfl) (fun _ _ _ h => h) (Or.inl ⟨by rfl, ?_⟩) hS9 ?_
        · intro w' hSw; obtain ⟨s0, s1⟩ := hSw; go_simp
        try simp only [Act.put]
        refine wpAnyZ_take (i := 2) (v := .string p0) rfl (by kernel_rfl) (by kernel_rfl) (by kernel_rfl) (by kernel_rfl) (fun _ _ _ h => h) (Or.inl ⟨by rfl, ?_⟩) hS9 ?_
        · intro w' hSw; obtain ⟨s0, s1⟩ := hSw; go_simp
        try simp only [Act.put]
        refine wpAnyZ_take (i := 3) (v := .string (p0 ++ ⟨#[58]⟩)) rfl (by kernel_rfl) (by kernel_rfl) (by kernel_rfl) (by kernel_rfl) (fun _ _ _ h => h) (Or.inl ⟨by rfl, ?_⟩) hS9 ?_
        · intro w' hSw; obtain ⟨s0, s1⟩ := hSw; go_simp
        try simp only [Act.put]
        refine wpAnyZ_take (i := 4) (v := .pointer (some ⟨w.heap.size, 1, none⟩)) rfl (by kernel_rfl) (by kernel_rfl) (by kernel_rfl) (by kernel_rfl) (fun _ _ _ h => h) (Or.inl ⟨by rfl, ?_⟩) hS9 ?_
        · intro w' hSw; obtain ⟨s0, s1⟩ := hSw; go_simp
        try simp only [Act.put]
        refine wpAnyZ_take (i := 5) (v := .int .i64 (nn : Int)) rfl (by kernel_rfl) (by kernel_rfl) (by kernel_rfl) (by kernel_rfl) (fun _ _ _ h => h) (Or.inl ⟨by rfl, ?_⟩) hS9 ?_
        · intro w' hSw; obtain ⟨s0, s1⟩ := hSw; go_simp
        try simp only [Act.put]
        refine wpAnyZ_one (i := 6) (by kernel_rfl) rfl ?_
        intro K hK
        rw [if_pos (by rfl)]
        go_simp
        go_at_call 21
        refine (snum nn _ hnn).mono ?_
        rintro e y2 ⟨rfl, k2⟩
        have ky : Kept Y y2 := ((But.refl _ _ _).drew).trans k2
        have hS8 : (fun w' => w'.cell? ⟨w.heap.size, 0, none⟩ = some (.string p0) ∧ w'.cell? ⟨w.heap.size, 1, none⟩ = some (.int .i64 (nn : Int))) y2 := ⟨(YL.out.kept ky).cell 0 rfl, (YL.out.kept ky).cell 1 rfl⟩
        clear hS9
        dsimp only
        refine hK.out _ _ (fun _ => hS8) ?_
        clear hK K
        try simp only [Act.put]
        refine wpAnyZ_one (i := 7) (by kernel_rfl) rfl ?_
        intro K hK
        rw [if_pos (by rfl)]
        go_simp
        refine hK.out _ _ (fun _ => hS8) ?_
        clear hK K
        try simp only [Act.put]
        refine wpAnyZ_one (i := 8) (by kernel_rfl) rfl ?_
        intro K hK
        rw [if_pos (by rfl)]
        go_simp
        obtain ⟨y3, hy3⟩ : ∃ y, y = y2.alloc (.cells #[.string (p0 ++ ⟨#[58]⟩ ++ numT nn)] 9) := ⟨_, rfl⟩
        rw [← hy3]
        have ky3 : Kept y2 y3 := by rw [hy3]; exact (But.refl _ _ _).alloc _
        have L9 : Loc y3 y2.heap.size [.string (p0 ++ ⟨#[58]⟩ ++ numT nn)] := by rw [hy3]; exact Loc.new y2 _ _
        have ky9 := ky.trans ky3
        have hS7 : (fun w' => w'.cell? ⟨w.heap.size, 0, none⟩ = some (.string p0) ∧ w'.cell? ⟨w.heap.size, 1, none⟩ = some (.int .i64 (nn : Int))) y3 := ⟨(YL.out.kept ky9).cell 0 rfl, (YL.out.kept ky9).cell 1 rfl⟩
        clear hy3 hS8
        refine hK.out _ _ (fun _ => hS7) ?_
        clear hK K
        try simp only [Act.put]
        have s9 := ky9.size
        have hO9 := own_kept HOY.out ky9
        refine wpAnyZ_one (i := 9) (by kernel_rfl) rfl ?_
        intro K hK
        refine step_append_own rfl (.tmp 52) (.tmp 60) 28 rfl W1.heap.size 9 i0 (.string ⟨#[]⟩) 1 16 Tryd.underlying28 hi0 hz0' hz1' hz2' rfl (by decide) (.slice ao' k c') k (XS.flatMap txtC) (by simp [Act.eval]) hO9 ⟨y2.heap.size, 0, none⟩ 1 1 [.string (p0 ++ ⟨#[58]⟩ ++ numT nn)] (by simp [Act.eval]) rfl (news_txt L9) (by simp [Value.oneCell']) (by unfold maxLen; omega) (by omega) (by omega) ?_
        intro v3 w3 hown hgrow
        obtain ⟨ao3, cp3, hf3, _⟩ := own_form hown
        subst hf3
        have YL3 := (YL.out.kept ky9).grown hgrow (fun e => by have := own_lt hO9 e; omega)
        have ZL3 := (ZL.out.kept ky9).grown hgrow (fun e => by have := own_lt hO9 e; omega)
        have HSL3 : Hid (Loc w3 w2.heap.size [.string d0, .int .i64 d1, .slice a3 d2.length p3, .string d3]) := (SL.out.kept ky9).grown hgrow (fun e => by have := HGB.out _ e; omega)
        have HB3 : Hid (But w.heap.size (w.heap.size + 1) W1 w3) := ((HBY.out.transK ky9).grown hgrow (fun k hk => .inl (own_lt hO9 hk).1))
        have HO3 : Hid (w3.ownsRow W1.heap.size 9 1 (.slice ao3 (k + 1) cp3) (k + 1) (XS.flatMap txtC ++ [.string (p0 ++ ⟨#[58]⟩ ++ numT nn)])) := hown
        have HY3 : Hid (Loc w3 w.heap.size [.string p0, .int .i64 (nn : Int), .string p2]) := YL3
        have HZ3 : Hid (Loc w3 (w.heap.size + 1) [.string ⟨#[]⟩, .int .i64 0, .string ⟨#[]⟩]) := ZL3
        refine hK.out _ _ (fun _ => ⟨YL3.cell 0 rfl, YL3.cell 1 rfl⟩) ?_
        clear hK K hown hgrow YL3 ZL3 hO9 L9 ky ky3 ky9 k2 hS7
        try simp only [Act.put]
        refine wpAnyZ_one (i := 10) (by kernel_rfl) rfl ?_
        intro K hK
        rw [if_pos (by rfl)]
        go_simp
        refine hK.out _ _ (fun h => absurd rfl h) ?_
        clear hK K
        refine wpAnyZ_done (by kernel_rfl) ?_ _
        try simp only [Act.put]
        have t0 := HY3.out.cell 0 rfl
        have t1 := HY3.out.cell 1 rfl
        have t1f := HY3.out.frozen 1
        have hgb3 := HY3.out.lt
        have hgs3 := HSL3.out.lt
        have y0 := HSL3.out.cell 1 rfl
        have y3 := HSL3.out.cell 3 rfl
        have M1 := HY3.out.set 1 (.int .i64 ((nn : Int) + 1))
        simp only [List.set_cons_zero, List.set_cons_succ] at M1
        have S1 := HSL3.out.other (b' := w.heap.size) (j := 1) (by omega) (.int .i64 ((nn : Int) + 1))
        have u1 := M1.cell 1 rfl
        have v1 := S1.cell 1 rfl
        have v3 := S1.cell 3 rfl
        have hR := HR.out
        by_cases hq1 : (nn : Int) + 1 = d1
        · have e1 : ((nn : Int) + 1 == d1) = true := beq_iff_eq.2 hq1
          have HT : Hid (nextM l (p0, (nn : Int), p2) = (d3, 0, p2)) := by show _ = _; unfold nextM; rw [hsd, if_pos hq1]
          have x0 := M1.cell 0 rfl
          have x0f := M1.frozen 0
          have M2 := M1.set 0 (.string d3)
          simp only [List.set_cons_zero] at M2
          have x1 := M2.cell 1 rfl
          have x1f := M2.frozen 1
          have M3 := M2.set 1 (.int .i64 0)
          simp only [List.set_cons_zero, List.set_cons_succ] at M3
          have B5 : But w.heap.size (w.heap.size + 1) w3 (((w3.setCell ⟨w.heap.size, 1, none⟩ (.int .i64 ((nn : Int) + 1))).setCell ⟨w.heap.size, 0, none⟩ (.string d3)).setCell ⟨w.heap.size, 1, none⟩ (.int .i64 0)) := ((((But.refl _ _ _)).setCell (by simp) (by simp) _).setCell (by simp) (by simp) _).setCell (by simp) (by simp) _
          have HM3 : Hid (Loc (((w3.setCell ⟨w.heap.size, 1, none⟩ (.int .i64 ((nn : Int) + 1))).setCell ⟨w.heap.size, 0, none⟩ (.string d3)).setCell ⟨w.heap.size, 1, none⟩ (.int .i64 0)) w.heap.size [.string d3, .int .i64 0, .string p2]) := M3
          have HB5 : Hid (But w.heap.size (w.heap.size + 1) w3 (((w3.setCell ⟨w.heap.size, 1, none⟩ (.int .i64 ((nn : Int) + 1))).setCell ⟨w.heap.size, 0, none⟩ (.string d3)).setCell ⟨w.heap.size, 1, none⟩ (.int .i64 0))) := B5
          have HQ1 : Hid ((nn : Int) + 1 = d1) := hq1
          clear M1 M2 M3 S1 B5 hq1
          repeat (first | go_values | go_skip | go_guarded | go_step | go_upon)
          refine ⟨⟨k + 1, ao3, cp3, hlt, by congr 1; omega, rfl, ?_, ?_, HZ3.out.but HB5.out (by omega), HB3.out.trans HB5.out⟩, by simp [intOf]; omega⟩
          · rw [hR]
            have h9 := own_but HO3.out HB5.out (fun g hg => by have := own_lt HO3.out hg; omega)
            rw [List.flatMap_append]
            exact h9
          · rw [hR, HT.out]
            exact HM3.out
        · have e1 : ((nn : Int) + 1 == d1) = false := beq_eq_false_iff_ne.2 hq1
          have HT : Hid (nextM l (p0, (nn : Int), p2) = (p0, (nn : Int) + 1, p2)) := by show _ = _; unfold nextM; rw [hsd, if_neg hq1]
          have B5 : But w.heap.size (w.heap.size + 1) w3 (w3.setCell ⟨w.heap.size, 1, none⟩ (.int .i64 ((nn : Int) + 1))) := ((But.refl _ _ _)).setCell (by simp) (by simp) _
          have HM3 : Hid (Loc (w3.setCell ⟨w.heap.size, 1, none⟩ (.int .i64 ((nn : Int) + 1))) w.heap.size [.string p0, .int .i64 ((nn : Int) + 1), .string p2]) := M1
          have HB5 : Hid (But w.heap.size (w.heap.size + 1) w3 (w3.setCell ⟨w.heap.size, 1, none⟩ (.int .i64 ((nn : Int) + 1)))) := B5
          clear M1 S1 B5
          repeat (first | go_values | go_skip | go_guarded | go_step | go_upon)
          refine ⟨⟨k + 1, ao3, cp3, hlt, by congr 1; omega, rfl, ?_, ?_, HZ3.out.but HB5.out (by omega), HB3.out.trans HB5.out⟩, by simp [intOf]; omega⟩
          · rw [hR]
            have h9 := own_but HO3.out HB5.out (fun g hg => by have := own_lt HO3.out hg; omega)
            rw [List.flatMap_append]
            exact h9
          · rw [hR, HT.out]
            exact HM3.out
      | false =>
        rw [q5] at hE
        have SCA : Hid (∀ W, Kept w2 W → Calls Tryd.prog 20 #[.slice a3 d2.length p3, .int .i64 b1] W fun e w' => e = .returned (.bool (memB b1 d2)) ∧ Kept W w') := fun W kW => scont d2 b1 _ W (HNA.out.kept kW) hl2
        cases q6 : memB b1 d2 with
        | false =>
          rw [q6] at SCA
          have HT0 : Hid (leaveM l (b0, b1, b2) = (b0, b1, b2)) := by show _ = _; unfold leaveM; rw [hsd0, if_neg (fun h => by simp [q6] at h)]
          have hsd := hsd0
          obtain ⟨p0, rfl⟩ : ∃ x, x = b0 := ⟨_, rfl⟩
          obtain ⟨p2, rfl⟩ : ∃ x, x = b2 := ⟨_, rfl⟩
          have HR : Hid (runS l (m0, m1, m2) (k + 1) = (nextM l (p0, b1, p2), XS ++ [heardT (p0, b1, p2)])) := by show _ = _; have := HR0.out; rw [HT0.out] at this; exact this
          have hlk : MusOk l (p0, b1, p2) := by have := HLK.out; rw [HT0.out] at this; exact this
          obtain ⟨hps, nn, hnn1, hnn2⟩ := mus_size hn hlk
          have hnn := hnn2 hS
          dsimp only at hps hnn1
          subst hnn1
          have hsz9 : ¬ 9223372036854775807 < p0.size + 1 := by omega
          have hsz8 : (p0 ++ ⟨#[58]⟩).size = p0.size + 1 := by rw [ByteArray.size_append]; rfl
          have hnt := numT_size nn
          have hsz7 : ¬ 9223372036854775807 < p0.size + 1 + (numT nn).size := by omega
          repeat (first | go_values | go_skip | go_guarded | go_step | go_upon)
          go_at_call 20
          refine (SCA.out _ ((But.refl _ _ _).alloc _)).mono ?_
          rintro e w5 ⟨rfl, k5⟩
          have j5 : Kept w2 w5 := ((But.refl _ _ _).alloc _).trans k5
          have s5 := j5.size
          have HY0 : Hid (Loc (w5) w.heap.size [.string p0, .int .i64 (nn : Int), .string p2]) := HL2.out.kept j5
          have HS0 : Hid (Loc (w5) w2.heap.size [.string d0, .int .i64 d1, .slice a3 d2.length p3, .string d3]) := HNS.out.kept k5
          have HB0 : Hid (But w.heap.size (w.heap.size + 1) wr (w5)) := But.of (HK2.out.trans j5)
          (try dsimp only); repeat (first | go_values | go_skip | go_guarded | go_step | go_upon)
          generalize (w5) = Y at *
          have HOY : Hid (Y.ownsRow W1.heap.size 9 1 (.slice ao' k c') k (XS.flatMap txtC)) := own_but HOW.out HB0.out (fun g hg => by have := own_lt HOW.out hg; omega)
          have YL : Hid (Loc Y w.heap.size [.string p0, .int .i64 (nn : Int), .string p2]) := HY0.out
          have SL : Hid (Loc Y w2.heap.size [.string d0, .int .i64 d1, .slice a3 d2.length p3, .string d3]) := HS0.out
          have ZL : Hid (Loc Y (w.heap.size + 1) [.string ⟨#[]⟩, .int .i64 0, .string ⟨#[]⟩]) := HZB.out.but HB0.out (by omega)
          have HBY : Hid (But w.heap.size (w.heap.size + 1) W1 Y) := HBK.out.trans HB0.out
          have hYs := HBY.out.size
          clear HY0 HS0 HB0 HOW HZB HBK
          clear HK2 HL2 HNS HNA c0 c1 c2 c3 e0 e1x e2 j5 k5
          refine wp_region_Z (fun w' => w'.cell? ⟨w.heap.size, 0, none⟩ = some (.string p0) ∧ w'.cell? ⟨w.heap.size, 1, none⟩ = some (.int .i64 (nn : Int))) 10 (by kernel_rfl) ?_
          have hS9 : (fun w' => w'.cell? ⟨w.heap.size, 0, none⟩ = some (.string p0) ∧ w'.cell? ⟨w.heap.size, 1, none⟩ = some (.int .i64 (nn : Int))) Y.drew := ⟨by have := YL.out.cell 0 rfl; simpa using this, by have := YL.out.cell 1 rfl; simpa using this⟩
          refine wpAnyZ_take (i := 0) (v := .slice ao' k c') rfl (by kernel_rfl) (by kernel_rfl) (by kernel_rfl) (by kernel_rfl) (fun _ _ _ h => h) (Or.inl ⟨by rfl, ?_⟩) hS9 ?_
          · intro w' hSw; obtain ⟨s0, s1⟩ := hSw; go_simp
          try simp only [Act.put]
          refine wpAnyZ_take (i := 1) (v := .pointer (some ⟨w.heap.size, 0, none⟩)) rfl (by kernel_rfl) (by kernel_rfl) (by kernel_rfl) (by kernel_rfl) (fun _ _ _ h => h) (Or.inl ⟨by rfl, ?_⟩) hS9 ?_
          · intro w' hSw; obtain ⟨s0, s1⟩ := hSw; go_simp
          try simp only [Act.put]
          refine wpAnyZ_take (i := 2) (v := .string p0) rfl (by kernel_rfl) (by kernel_rfl) (by kernel_rfl) (by kernel_rfl) (fun _ _ _ h => h) (Or.inl ⟨by rfl, ?_⟩) hS9 ?_
          · intro w' hSw; obtain ⟨s0, s1⟩ := hSw; go_simp
          try simp only [Act.put]
          refine wpAnyZ_take (i := 3) (v := .string (p0 ++ ⟨#[58]⟩)) rfl (by kernel_rfl) (by kernel_rfl) (by kernel_rfl) (by kernel_rfl) (fun _ _ _ h => h) (Or.inl ⟨by rfl, ?_⟩) hS9 ?_
          · intro w' hSw; obtain ⟨s0, s1⟩ := hSw; go_simp
          try simp only [Act.put]
          refine wpAnyZ_take (i := 4) (v := .pointer (some ⟨w.heap.size, 1, none⟩)) rfl (by kernel_rfl) (by kernel_rfl) (by kernel_rfl) (by kernel_rfl) (fun _ _ _ h => h) (Or.inl ⟨by rfl, ?_⟩) hS9 ?_
          · intro w' hSw; obtain ⟨s0, s1⟩ := hSw; go_simp
          try simp only [Act.put]
          refine wpAnyZ_take (i := 5) (v := .int .i64 (nn : Int)) rfl (by kernel_rfl) (by kernel_rfl) (by kernel_rfl) (by kernel_rfl) (fun _ _ _ h => h) (Or.inl ⟨by rfl, ?_⟩) hS9 ?_
          · intro w' hSw; obtain ⟨s0, s1⟩ := hSw; go_simp
          try simp only [Act.put]
          refine wpAnyZ_one (i := 6) (by kernel_rfl) rfl ?_
          intro K hK
          rw [if_pos (by rfl)]
          go_simp
          go_at_call 21
          refine (snum nn _ hnn).mono ?_
          rintro e y2 ⟨rfl, k2⟩
          have ky : Kept Y y2 := ((But.refl _ _ _).drew).trans k2
          have hS8 : (fun w' => w'.cell? ⟨w.heap.size, 0, none⟩ = some (.string p0) ∧ w'.cell? ⟨w.heap.size, 1, none⟩ = some (.int .i64 (nn : Int))) y2 := ⟨(YL.out.kept ky).cell 0 rfl, (YL.out.kept ky).cell 1 rfl⟩
          clear hS9
          dsimp only
          refine hK.out _ _ (fun _ => hS8) ?_
          clear hK K
          try simp only [Act.put]
          refine wpAnyZ_one (i := 7) (by kernel_rfl) rfl ?_
          intro K hK
          rw [if_pos (by rfl)]
          go_simp
          refine hK.out _ _ (fun _ => hS8) ?_
          clear hK K
          try simp only [Act.put]
          refine wpAnyZ_one (i := 8) (by kernel_rfl) rfl ?_
          intro K hK
          rw [if_pos (by rfl)]
          go_simp
          obtain ⟨y3, hy3⟩ : ∃ y, y = y2.alloc (.cells #[.string (p0 ++ ⟨#[58]⟩ ++ numT nn)] 9) := ⟨_, rfl⟩
          rw [← hy3]
          have ky3 : Kept y2 y3 := by rw [hy3]; exact (But.refl _ _ _).alloc _
          have L9 : Loc y3 y2.heap.size [.string (p0 ++ ⟨#[58]⟩ ++ numT nn)] := by rw [hy3]; exact Loc.new y2 _ _
          have ky9 := ky.trans ky3
          have hS7 : (fun w' => w'.cell? ⟨w.heap.size, 0, none⟩ = some (.string p0) ∧ w'.cell? ⟨w.heap.size, 1, none⟩ = some (.int .i64 (nn : Int))) y3 := ⟨(YL.out.kept ky9).cell 0 rfl, (YL.out.kept ky9).cell 1 rfl⟩
          clear hy3 hS8
          refine hK.out _ _ (fun _ => hS7) ?_
          clear hK K
          try simp only [Act.put]
          have s9 := ky9.size
          have hO9 := own_kept HOY.out ky9
          refine wpAnyZ_one (i := 9) (by kernel_rfl) rfl ?_
          intro K hK
          refine step_append_own rfl (.tmp 52) (.tmp 60) 28 rfl W1.heap.size 9 i0 (.string ⟨#[]⟩) 1 16 Tryd.underlying28 hi0 hz0' hz1' hz2' rfl (by decide) (.slice ao' k c') k (XS.flatMap txtC) (by simp [Act.eval]) hO9 ⟨y2.heap.size, 0, none⟩ 1 1 [.string (p0 ++ ⟨#[58]⟩ ++ numT nn)] (by simp [Act.eval]) rfl (news_txt L9) (by simp [Value.oneCell']) (by unfold maxLen; omega) (by omega) (by omega) ?_
          intro v3 w3 hown hgrow
          obtain ⟨ao3, cp3, hf3, _⟩ := own_form hown
          subst hf3
          have YL3 := (YL.out.kept ky9).grown hgrow (fun e => by have := own_lt hO9 e; omega)
          have ZL3 := (ZL.out.kept ky9).grown hgrow (fun e => by have := own_lt hO9 e; omega)
          have HSL3 : Hid (Loc w3 w2.heap.size [.string d0, .int .i64 d1, .slice a3 d2.length p3, .string d3]) := (SL.out.kept ky9).grown hgrow (fun e => by have := HGB.out _ e; omega)
          have HB3 : Hid (But w.heap.size (w.heap.size + 1) W1 w3) := ((HBY.out.transK ky9).grown hgrow (fun k hk => .inl (own_lt hO9 hk).1))
          have HO3 : Hid (w3.ownsRow W1.heap.size 9 1 (.slice ao3 (k + 1) cp3) (k + 1) (XS.flatMap txtC ++ [.string (p0 ++ ⟨#[58]⟩ ++ numT nn)])) := hown
          have HY3 : Hid (Loc w3 w.heap.size [.string p0, .int .i64 (nn : Int), .string p2]) := YL3
          have HZ3 : Hid (Loc w3 (w.heap.size + 1) [.string ⟨#[]⟩, .int .i64 0, .string ⟨#[]⟩]) := ZL3
          refine hK.out _ _ (fun _ => ⟨YL3.cell 0 rfl, YL3.cell 1 rfl⟩) ?_
          clear hK K hown hgrow YL3 ZL3 hO9 L9 ky ky3 ky9 k2 hS7
          try simp only [Act.put]
          refine wpAnyZ_one (i := 10) (by kernel_rfl) rfl ?_
          intro K hK
          rw [if_pos (by rfl)]
          go_simp
          refine hK.out _ _ (fun h => absurd rfl h) ?_
          clear hK K
          refine wpAnyZ_done (by kernel_rfl) ?_ _
          try simp only [Act.put]
          have t0 := HY3.out.cell 0 rfl
          have t1 := HY3.out.cell 1 rfl
          have t1f := HY3.out.frozen 1
          have hgb3 := HY3.out.lt
          have hgs3 := HSL3.out.lt
          have y0 := HSL3.out.cell 1 rfl
          have y3 := HSL3.out.cell 3 rfl
          have M1 := HY3.out.set 1 (.int .i64 ((nn : Int) + 1))
          simp only [List.set_cons_zero, List.set_cons_succ] at M1
          have S1 := HSL3.out.other (b' := w.heap.size) (j := 1) (by omega) (.int .i64 ((nn : Int) + 1))
          have u1 := M1.cell 1 rfl
          have v1 := S1.cell 1 rfl
          have v3 := S1.cell 3 rfl
          have hR := HR.out
          by_cases hq1 : (nn : Int) + 1 = d1
          · have e1 : ((nn : Int) + 1 == d1) = true := beq_iff_eq.2 hq1
            have HT : Hid (nextM l (p0, (nn : Int), p2) = (d3, 0, p2)) := by show _ = _; unfold nextM; rw [hsd, if_pos hq1]
            have x0 := M1.cell 0 rfl
            have x0f := M1.frozen 0
            have M2 := M1.set 0 (.string d3)
            simp only [List.set_cons_zero] at M2
            have x1 := M2.cell 1 rfl
            have x1f := M2.frozen 1
            have M3 := M2.set 1 (.int .i64 0)
            simp only [List.set_cons_zero, List.set_cons_succ] at M3
            have B5 : But w.heap.size (w.heap.size + 1) w3 (((w3.setCell ⟨w.heap.size, 1, none⟩ (.int .i64 ((nn : Int) + 1))).setCell ⟨w.heap.size, 0, none⟩ (.string d3)).setCell ⟨w.heap.size, 1, none⟩ (.int .i64 0)) := ((((But.refl _ _ _)).setCell (by simp) (by simp) _).setCell (by simp) (by simp) _).setCell (by simp) (by simp) _
            have HM3 : Hid (Loc (((w3.setCell ⟨w.heap.size, 1, none⟩ (.int .i64 ((nn : Int) + 1))).setCell ⟨w.heap.size, 0, none⟩ (.string d3)).setCell ⟨w.heap.size, 1, none⟩ (.int .i64 0)) w.heap.size [.string d3, .int .i64 0, .string p2]) := M3
            have HB5 : Hid (But w.heap.size (w.heap.size + 1) w3 (((w3.setCell ⟨w.heap.size, 1, none⟩ (.int .i64 ((nn : Int) + 1))).setCell ⟨w.heap.size, 0, none⟩ (.string d3)).setCell ⟨w.heap.size, 1, none⟩ (.int .i64 0))) := B5
            have HQ1 : Hid ((nn : Int) + 1 = d1) := hq1
            clear M1 M2 M3 S1 B5 hq1
            repeat (first | go_values | go_skip | go_guarded | go_step | go_upon)
            refine ⟨⟨k + 1, ao3, cp3, hlt, by congr 1; omega, rfl, ?_, ?_, HZ3.out.but HB5.out (by omega), HB3.out.trans HB5.out⟩, by simp [intOf]; omega⟩
            · rw [hR]
              have h9 := own_but HO3.out HB5.out (fun g hg => by have := own_lt HO3.out hg; omega)
              rw [List.flatMap_append]
              exact h9
            · rw [hR, HT.out]
              exact HM3.out
          · have e1 : ((nn : Int) + 1 == d1) = false := beq_eq_false_iff_ne.2 hq1
            have HT : Hid (nextM l (p0, (nn : Int), p2) = (p0, (nn : Int) + 1, p2)) := by show _ = _; unfold nextM; rw [hsd, if_neg hq1]
            have B5 : But w.heap.size (w.heap.size + 1) w3 (w3.setCell ⟨w.heap.size, 1, none⟩ (.int .i64 ((nn : Int) + 1))) := ((But.refl _ _ _)).setCell (by simp) (by simp) _
            have HM3 : Hid (Loc (w3.setCell ⟨w.heap.size, 1, none⟩ (.int .i64 ((nn : Int) + 1))) w.heap.size [.string p0, .int .i64 ((nn : Int) + 1), .string p2]) := M1
            have HB5 : Hid (But w.heap.size (w.heap.size + 1) w3 (w3.setCell ⟨w.heap.size, 1, none⟩ (.int .i64 ((nn : Int) + 1)))) := B5
            clear M1 S1 B5
            repeat (first | go_values | go_skip | go_guarded | go_step | go_upon)
            refine ⟨⟨k + 1, ao3, cp3, hlt, by congr 1; omega, rfl, ?_, ?_, HZ3.out.but HB5.out (by omega), HB3.out.trans HB5.out⟩, by simp [intOf]; omega⟩
            · rw [hR]
              have h9 := own_but HO3.out HB5.out (fun g hg => by have := own_lt HO3.out hg; omega)
              rw [List.flatMap_append]
              exact h9
            · rw [hR, HT.out]
              exact HM3.out
        | true =>
          rw [q6] at SCA
          have HT0 : Hid (leaveM l (b0, b1, b2) = (b2, 0, ⟨#[]⟩)) := by show _ = _; unfold leaveM; rw [hsd0, if_pos ⟨q5, q6⟩]
          obtain ⟨nn, hnn0⟩ : ∃ n : Nat, (n : Int) = 0 := ⟨0, rfl⟩
          have hnn : nn < 64 := by omega
          have HR : Hid (runS l (m0, m1, m2) (k + 1) = (nextM l (b2, (nn : Int), ⟨#[]⟩), XS ++ [heardT (b2, (nn : Int), ⟨#[]⟩)])) := by show _ = _; have := HR0.out; rw [HT0.out] at this; rw [hnn0]; exact this
          have hlk : MusOk l (b2, 0, ⟨#[]⟩) := by have := HLK.out; rw [HT0.out] at this; exact this
          have hps := (mus_size hn hlk).1
          obtain ⟨kd', d', hfs', hd', hbt', -⟩ := hlk
          have hsd := secD_at hfs' hd'
          dsimp only at hfs' hps hsd
          obtain ⟨p0, rfl⟩ : ∃ x, x = b2 := ⟨_, rfl⟩
          have hsz9 : ¬ 9223372036854775807 < p0.size + 1 := by omega
          have hsz8 : (p0 ++ ⟨#[58]⟩).size = p0.size + 1 := by rw [ByteArray.size_append]; rfl
          have hnt := numT_size nn
          have hsz7 : ¬ 9223372036854775807 < p0.size + 1 + (numT nn).size := by omega
          have HFX' : Hid (∀ W, SecsAt W (.slice (some ⟨bb, o, none⟩) l.length cap) l → Calls Tryd.prog 19 #[.slice (some ⟨bb, o, none⟩) l.length cap, .string p0] W fun e w' => e = .returned (.int .i64 (kd' : Int)) ∧ Kept W w') := fun W h => by have := ssec l p0 _ W h hln; rw [hfs'] at this; exact this
          repeat (first | go_values | go_skip | go_guarded | go_step | go_upon)
          go_at_call 20
          refine (SCA.out _ ((But.refl _ _ _).alloc _)).mono ?_
          rintro e w5 ⟨rfl, k5⟩
          have j5 : Kept w2 w5 := ((But.refl _ _ _).alloc _).trans k5
          have s5 := j5.size
          have L5 := HL2.out.kept j5
          have NS5 := HNS.out.kept k5
          have hgs5 := NS5.lt
          have r2 := L5.cell 2 rfl
          have g0 := L5.cell 0 rfl
          have gf0 := L5.frozen 0
          have M0 := L5.set 0 (.string p0)
          simp only [List.set_cons_zero] at M0
          have g1 := M0.cell 1 rfl
          have gf1 := M0.frozen 1
          have M1 := M0.set 1 (.int .i64 0)
          simp only [List.set_cons_zero, List.set_cons_succ] at M1
          have g2 := M1.cell 2 rfl
          have gf2 := M1.frozen 2
          have M2 := M1.set 2 (.string ⟨#[]⟩)
          simp only [List.set_cons_zero, List.set_cons_succ] at M2
          have u0 := M2.cell 0 rfl
          have B5 : But w.heap.size (w.heap.size + 1) wr (((w5.setCell ⟨w.heap.size, 0, none⟩ (.string p0)).setCell ⟨w.heap.size, 1, none⟩ (.int .i64 0)).setCell ⟨w.heap.size, 2, none⟩ (.string ⟨#[]⟩)) := (((But.of (HK2.out.trans j5)).setCell (by simp) (by simp) _).setCell (by simp) (by simp) _).setCell (by simp) (by simp) _
          have S5 := ((NS5.other (b' := w.heap.size) (j := 0) (by omega) (.string p0)).other (b' := w.heap.size) (j := 1) (by omega) (.int .i64 0)).other (b' := w.heap.size) (j := 2) (by omega) (.string ⟨#[]⟩)
          have HVc := hVB _ (HBK.out.trans B5)
          have hB5s : wr.heap.size ≤ (((w5.setCell ⟨w.heap.size, 0, none⟩ (.string p0)).setCell ⟨w.heap.size, 1, none⟩ (.int .i64 0)).setCell ⟨w.heap.size, 2, none⟩ (.string ⟨#[]⟩)).heap.size := B5.size
          dsimp only
          repeat (first | go_values | go_skip | go_guarded | go_step | go_upon)
          go_at_call 19
          refine (HFX'.out _ HVc).mono ?_
          rintro e w6 ⟨rfl, k6⟩
          have HV6 := HVc.kept k6
          have L6 := M2.kept k6
          have S6 := S5.kept k6
          have B6 := B5.transK k6
          obtain ⟨bb', o', cap'', s', ee', y0, y1, y2, y3, hka'⟩ := HV6.get hd'
          cases ee'
          have hkl' : kd' < l.length := (List.getElem?_eq_some_iff.1 hd').1
          obtain ⟨d0', d1', d2', d3'⟩ := d'
          dsimp only at y0 y1 y2 y3 hka'
          obtain ⟨a3', p3', hsl'⟩ := row_nil hka'
          subst hsl'
          have z0' : (0 : Int) ≤ (kd' : Int) := by omega
          have z1' : (kd' : Int) < (l.length : Int) := by omega
          have hgs6 := S6.lt
          have h0c := S6.cell 0 rfl
          have h0f := S6.frozen 0
          have T0 := S6.set 0 (.string d0')
          simp only [List.set_cons_zero] at T0
          have h1c := T0.cell 1 rfl
          have h1f := T0.frozen 1
          have T1 := T0.set 1 (.int .i64 d1')
          simp only [List.set_cons_zero, List.set_cons_succ] at T1
          have h2c := T1.cell 2 rfl
          have h2f := T1.frozen 2
          have T2 := T1.set 2 (.slice a3' d2'.length p3')
          simp only [List.set_cons_zero, List.set_cons_succ] at T2
          have h3c := T2.cell 3 rfl
          have h3f := T2.frozen 3
          have T3 := T2.set 3 (.string d3')
          simp only [List.set_cons_zero, List.set_cons_succ] at T3
          have HY6 : Hid (Loc ((((w6.setCell ⟨w2.heap.size, 0, none⟩ (.string d0')).setCell ⟨w2.heap.size, 1, none⟩ (.int .i64 d1')).setCell ⟨w2.heap.size, 2, none⟩ (.slice a3' d2'.length p3')).setCell ⟨w2.heap.size, 3, none⟩ (.string d3')) w.heap.size [.string p0, .int .i64 (nn : Int), .string ⟨#[]⟩]) := by rw [hnn0]; exact ((((L6.other (b' := w2.heap.size) (j := 0) (by omega) _).other (b' := w2.heap.size) (j := 1) (by omega) _).other (b' := w2.heap.size) (j := 2) (by omega) _).other (b' := w2.heap.size) (j := 3) (by omega) _)
          have BW : Hid (But w.heap.size (w.heap.size + 1) W1 ((((w6.setCell ⟨w2.heap.size, 0, none⟩ (.string d0')).setCell ⟨w2.heap.size, 1, none⟩ (.int .i64 d1')).setCell ⟨w2.heap.size, 2, none⟩ (.slice a3' d2'.length p3')).setCell ⟨w2.heap.size, 3, none⟩ (.string d3'))) := ((((HBK.out.trans B6).setNew (by simp; omega) _).setNew (by simp; omega) _).setNew (by simp; omega) _).setNew (by simp; omega) _
          have OW6 := own_but HOW.out B6 (fun g hg => by have := own_lt HOW.out hg; omega)
          have HOY6 : Hid (World.ownsRow ((((w6.setCell ⟨w2.heap.size, 0, none⟩ (.string d0')).setCell ⟨w2.heap.size, 1, none⟩ (.int .i64 d1')).setCell ⟨w2.heap.size, 2, none⟩ (.slice a3' d2'.length p3')).setCell ⟨w2.heap.size, 3, none⟩ (.string d3')) W1.heap.size 9 1 (.slice ao' k c') k (XS.flatMap txtC)) := own_but (lo := w2.heap.size) (hi := w2.heap.size + 1) OW6 (((((But.refl _ _ _).setCell (by simp) (by simp) _).setCell (by simp) (by simp) _).setCell (by simp) (by simp) _).setCell (by simp) (by simp) _) (fun g hg => by have := HGB.out _ hg; omega)
          have ZY6 : Hid (Loc ((((w6.setCell ⟨w2.heap.size, 0, none⟩ (.string d0')).setCell ⟨w2.heap.size, 1, none⟩ (.int .i64 d1')).setCell ⟨w2.heap.size, 2, none⟩ (.slice a3' d2'.length p3')).setCell ⟨w2.heap.size, 3, none⟩ (.string d3')) (w.heap.size + 1) [.string ⟨#[]⟩, .int .i64 0, .string ⟨#[]⟩]) := (((((HZB.out.but B6 (by omega)).other (b' := w2.heap.size) (j := 0) (by have := HZB.out.lt; omega) _).other (b' := w2.heap.size) (j := 1) (by have := HZB.out.lt; omega) _).other (b' := w2.heap.size) (j := 2) (by have := HZB.out.lt; omega) _).other (b' := w2.heap.size) (j := 3) (by have := HZB.out.lt; omega) _)
          have HS6 : Hid (Loc ((((w6.setCell ⟨w2.heap.size, 0, none⟩ (.string d0')).setCell ⟨w2.heap.size, 1, none⟩ (.int .i64 d1')).setCell ⟨w2.heap.size, 2, none⟩ (.slice a3' d2'.length p3')).setCell ⟨w2.heap.size, 3, none⟩ (.string d3')) w2.heap.size [.string d0', .int .i64 d1', .slice a3' d2'.length p3', .string d3']) := T3
          clear T0 T1 T2 T3 L6 S6 OW6 L5 NS5 S5 M0 M1 M2
          dsimp only
          repeat (first | go_values | go_skip | go_guarded | go_step | go_upon)
          generalize ((((w6.setCell ⟨w2.heap.size, 0, none⟩ (.string d0')).setCell ⟨w2.heap.size, 1, none⟩ (.int .i64 d1')).setCell ⟨w2.heap.size, 2, none⟩ (.slice a3' d2'.length p3')).setCell ⟨w2.heap.size, 3, none⟩ (.string d3')) = Y at *
          have HOY : Hid (Y.ownsRow W1.heap.size 9 1 (.slice ao' k c') k (XS.flatMap txtC)) := HOY6.out
          have YL : Hid (Loc Y w.heap.size [.string p0, .int .i64 (nn : Int), .string ⟨#[]⟩]) := HY6.out
          have SL : Hid (Loc Y w2.heap.size [.string d0', .int .i64 d1', .slice a3' d2'.length p3', .string d3']) := HS6.out
          have ZL : Hid (Loc Y (w.heap.size + 1) [.string ⟨#[]⟩, .int .i64 0, .string ⟨#[]⟩]) := ZY6.out
          have HBY : Hid (But w.heap.size (w.heap.size + 1) W1 Y) := BW.out
          have hYs := HBY.out.size
          clear HOY6 HY6 HS6 ZY6 BW HOW HZB HBK B5 B6 HK2 HL2 HNS HNA c0 c1 c2 c3 e0 e1x e2 j5 k5 k6 g0 g1 g2 gf0 gf1 gf2 u0 y0 y1 y2 y3 r2
          clear hnn0
          refine wp_region_Z (fun w' => w'.cell? ⟨w.heap.size, 0, none⟩ = some (.string p0) ∧ w'.cell? ⟨w.heap.size, 1, none⟩ = some (.int .i64 (nn : Int))) 10 (by kernel_rfl) ?_
          have hS9 : (fun w' => w'.cell? ⟨w.heap.size, 0, none⟩ = some (.string p0) ∧ w'.cell? ⟨w.heap.size, 1, none⟩ = some (.int .i64 (nn : Int))) Y.drew := ⟨by have := YL.out.cell 0 rfl; simpa using this, by have := YL.out.cell 1 rfl; simpa using this⟩
          refine wpAnyZ_take (i := 0) (v := .slice ao' k c') rfl (by kernel_rfl) (by kernel_rfl) (by kernel_rfl) (by kernel_rfl) (fun _ _ _ h => h) (Or.inl ⟨by rfl, ?_⟩) hS9 ?_
          · intro w' hSw; obtain ⟨s0, s1⟩ := hSw; go_simp
          try simp only [Act.put]
          refine wpAnyZ_take (i := 1) (v := .pointer (some ⟨w.heap.size, 0, none⟩)) rfl (by kernel_rfl) (by kernel_rfl) (by kernel_rfl) (by kernel_rfl) (fun _ _ _ h => h) (Or.inl ⟨by rfl, ?_⟩) hS9 ?_
          · intro w' hSw; obtain ⟨s0, s1⟩ := hSw; go_simp
          try simp only [Act.put]
          refine wpAnyZ_take (i := 2) (v := .string p0) rfl (by kernel_rfl) (by kernel_rfl) (by kernel_rfl) (by kernel_rfl) (fun _ _ _ h => h) (Or.inl ⟨by rfl, ?_⟩) hS9 ?_
          · intro w' hSw; obtain ⟨s0, s1⟩ := hSw; go_simp
          try simp only [Act.put]
          refine wpAnyZ_take (i := 3) (v := .string (p0 ++ ⟨#[58]⟩)) rfl (by kernel_rfl) (by kernel_rfl) (by kernel_rfl) (by kernel_rfl) (fun _ _ _ h => h) (Or.inl ⟨by rfl, ?_⟩) hS9 ?_
          · intro w' hSw; obtain ⟨s0, s1⟩ := hSw; go_simp
          try simp only [Act.put]
          refine wpAnyZ_take (i := 4) (v := .pointer (some ⟨w.heap.size, 1, none⟩)) rfl (by kernel_rfl) (by kernel_rfl) (by kernel_rfl) (by kernel_rfl) (fun _ _ _ h => h) (Or.inl ⟨by rfl, ?_⟩) hS9 ?_
          · intro w' hSw; obtain ⟨s0, s1⟩ := hSw; go_simp
          try simp only [Act.put]
          refine wpAnyZ_take (i := 5) (v := .int .i64 (nn : Int)) rfl (by kernel_rfl) (by kernel_rfl) (by kernel_rfl) (by kernel_rfl) (fun _ _ _ h => h) (Or.inl ⟨by rfl, ?_⟩) hS9 ?_
          · intro w' hSw; obtain ⟨s0, s1⟩ := hSw; go_simp
          try simp only [Act.put]
          refine wpAnyZ_one (i := 6) (by kernel_rfl) rfl ?_
          intro K hK
          rw [if_pos (by rfl)]
          go_simp
          go_at_call 21
          refine (snum nn _ hnn).mono ?_
          rintro e y2 ⟨rfl, k2⟩
          have ky : Kept Y y2 := ((But.refl _ _ _).drew).trans k2
          have hS8 : (fun w' => w'.cell? ⟨w.heap.size, 0, none⟩ = some (.string p0) ∧ w'.cell? ⟨w.heap.size, 1, none⟩ = some (.int .i64 (nn : Int))) y2 := ⟨(YL.out.kept ky).cell 0 rfl, (YL.out.kept ky).cell 1 rfl⟩
          clear hS9
          dsimp only
          refine hK.out _ _ (fun _ => hS8) ?_
          clear hK K
          try simp only [Act.put]
          refine wpAnyZ_one (i := 7) (by kernel_rfl) rfl ?_
          intro K hK
          rw [if_pos (by rfl)]
          go_simp
          refine hK.out _ _ (fun _ => hS8) ?_
          clear hK K
          try simp only [Act.put]
          refine wpAnyZ_one (i := 8) (by kernel_rfl) rfl ?_
          intro K hK
          rw [if_pos (by rfl)]
          go_simp
          obtain ⟨y3, hy3⟩ : ∃ y, y = y2.alloc (.cells #[.string (p0 ++ ⟨#[58]⟩ ++ numT nn)] 9) := ⟨_, rfl⟩
          rw [← hy3]
          have ky3 : Kept y2 y3 := by rw [hy3]; exact (But.refl _ _ _).alloc _
          have L9 : Loc y3 y2.heap.size [.string (p0 ++ ⟨#[58]⟩ ++ numT nn)] := by rw [hy3]; exact Loc.new y2 _ _
          have ky9 := ky.trans ky3
          have hS7 : (fun w' => w'.cell? ⟨w.heap.size, 0, none⟩ = some (.string p0) ∧ w'.cell? ⟨w.heap.size, 1, none⟩ = some (.int .i64 (nn : Int))) y3 := ⟨(YL.out.kept ky9).cell 0 rfl, (YL.out.kept ky9).cell 1 rfl⟩
          clear hy3 hS8
          refine hK.out _ _ (fun _ => hS7) ?_
          clear hK K
          try simp only [Act.put]
          have s9 := ky9.size
          have hO9 := own_kept HOY.out ky9
          refine wpAnyZ_one (i := 9) (by kernel_rfl) rfl ?_
          intro K hK
          refine step_append_own rfl (.tmp 52) (.tmp 60) 28 rfl W1.heap.size 9 i0 (.string ⟨#[]⟩) 1 16 Tryd.underlying28 hi0 hz0' hz1' hz2' rfl (by decide) (.slice ao' k c') k (XS.flatMap txtC) (by simp [Act.eval]) hO9 ⟨y2.heap.size, 0, none⟩ 1 1 [.string (p0 ++ ⟨#[58]⟩ ++ numT nn)] (by simp [Act.eval]) rfl (news_txt L9) (by simp [Value.oneCell']) (by unfold maxLen; omega) (by omega) (by omega) ?_
          intro v3 w3 hown hgrow
          obtain ⟨ao3, cp3, hf3, _⟩ := own_form hown
          subst hf3
          have YL3 := (YL.out.kept ky9).grown hgrow (fun e => by have := own_lt hO9 e; omega)
          have ZL3 := (ZL.out.kept ky9).grown hgrow (fun e => by have := own_lt hO9 e; omega)
          have HSL3 : Hid (Loc w3 w2.heap.size [.string d0', .int .i64 d1', .slice a3' d2'.length p3', .string d3']) := (SL.out.kept ky9).grown hgrow (fun e => by have := HGB.out _ e; omega)
          have HB3 : Hid (But w.heap.size (w.heap.size + 1) W1 w3) := ((HBY.out.transK ky9).grown hgrow (fun k hk => .inl (own_lt hO9 hk).1))
          have HO3 : Hid (w3.ownsRow W1.heap.size 9 1 (.slice ao3 (k + 1) cp3) (k + 1) (XS.flatMap txtC ++ [.string (p0 ++ ⟨#[58]⟩ ++ numT nn)])) := hown
          have HY3 : Hid (Loc w3 w.heap.size [.string p0, .int .i64 (nn : Int), .string ⟨#[]⟩]) := YL3
          have HZ3 : Hid (Loc w3 (w.heap.size + 1) [.string ⟨#[]⟩, .int .i64 0, .string ⟨#[]⟩]) := ZL3
          refine hK.out _ _ (fun _ => ⟨YL3.cell 0 rfl, YL3.cell 1 rfl⟩) ?_
          clear hK K hown hgrow YL3 ZL3 hO9 L9 ky ky3 ky9 k2 hS7
          try simp only [Act.put]
          refine wpAnyZ_one (i := 10) (by kernel_rfl) rfl ?_
          intro K hK
          rw [if_pos (by rfl)]
          go_simp
          refine hK.out _ _ (fun h => absurd rfl h) ?_
          clear hK K
          refine wpAnyZ_done (by kernel_rfl) ?_ _
          try simp only [Act.put]
          have t0 := HY3.out.cell 0 rfl
          have t1 := HY3.out.cell 1 rfl
          have t1f := HY3.out.frozen 1
          have hgb3 := HY3.out.lt
          have hgs3 := HSL3.out.lt
          have y0 := HSL3.out.cell 1 rfl
          have y3 := HSL3.out.cell 3 rfl
          have M1 := HY3.out.set 1 (.int .i64 ((nn : Int) + 1))
          simp only [List.set_cons_zero, List.set_cons_succ] at M1
          have S1 := HSL3.out.other (b' := w.heap.size) (j := 1) (by omega) (.int .i64 ((nn : Int) + 1))
          have u1 := M1.cell 1 rfl
          have v1 := S1.cell 1 rfl
          have v3 := S1.cell 3 rfl
          have hR := HR.out
          by_cases hq1 : (nn : Int) + 1 = d1'
          · have e1 : ((nn : Int) + 1 == d1') = true := beq_iff_eq.2 hq1
            have HT : Hid (nextM l (p0, (nn : Int), ⟨#[]⟩) = (d3', 0, ⟨#[]⟩)) := by show _ = _; unfold nextM; rw [hsd, if_pos hq1]
            have x0 := M1.cell 0 rfl
            have x0f := M1.frozen 0
            have M2 := M1.set 0 (.string d3')
            simp only [List.set_cons_zero] at M2
            have x1 := M2.cell 1 rfl
            have x1f := M2.frozen 1
            have M3 := M2.set 1 (.int .i64 0)
            simp only [List.set_cons_zero, List.set_cons_succ] at M3
            have B5 : But w.heap.size (w.heap.size + 1) w3 (((w3.setCell ⟨w.heap.size, 1, none⟩ (.int .i64 ((nn : Int) + 1))).setCell ⟨w.heap.size, 0, none⟩ (.string d3')).setCell ⟨w.heap.size, 1, none⟩ (.int .i64 0)) := ((((But.refl _ _ _)).setCell (by simp) (by simp) _).setCell (by simp) (by simp) _).setCell (by simp) (by simp) _
            have HM3 : Hid (Loc (((w3.setCell ⟨w.heap.size, 1, none⟩ (.int .i64 ((nn : Int) + 1))).setCell ⟨w.heap.size, 0, none⟩ (.string d3')).setCell ⟨w.heap.size, 1, none⟩ (.int .i64 0)) w.heap.size [.string d3', .int .i64 0, .string ⟨#[]⟩]) := M3
            have HB5 : Hid (But w.heap.size (w.heap.size + 1) w3 (((w3.setCell ⟨w.heap.size, 1, none⟩ (.int .i64 ((nn : Int) + 1))).setCell ⟨w.heap.size, 0, none⟩ (.string d3')).setCell ⟨w.heap.size, 1, none⟩ (.int .i64 0))) := B5
            have HQ1 : Hid ((nn : Int) + 1 = d1') := hq1
            clear M1 M2 M3 S1 B5 hq1
            repeat (first | go_values | go_skip | go_guarded | go_step | go_upon)
            refine ⟨⟨k + 1, ao3, cp3, hlt, by congr 1; omega, rfl, ?_, ?_, HZ3.out.but HB5.out (by omega), HB3.out.trans HB5.out⟩, by simp [intOf]; omega⟩
            · rw [hR]
              have h9 := own_but HO3.out HB5.out (fun g hg => by have := own_lt HO3.out hg; omega)
              rw [List.flatMap_append]
              exact h9
            · rw [hR, HT.out]
              exact HM3.out
          · have e1 : ((nn : Int) + 1 == d1') = false := beq_eq_false_iff_ne.2 hq1
            have HT : Hid (nextM l (p0, (nn : Int), ⟨#[]⟩) = (p0, (nn : Int) + 1, ⟨#[]⟩)) := by show _ = _; unfold nextM; rw [hsd, if_neg hq1]
            have B5 : But w.heap.size (w.heap.size + 1) w3 (w3.setCell ⟨w.heap.size, 1, none⟩ (.int .i64 ((nn : Int) + 1))) := ((But.refl _ _ _)).setCell (by simp) (by simp) _
            have HM3 : Hid (Loc (w3.setCell ⟨w.heap.size, 1, none⟩ (.int .i64 ((nn : Int) + 1))) w.heap.size [.string p0, .int .i64 ((nn : Int) + 1), .string ⟨#[]⟩]) := M1
            have HB5 : Hid (But w.heap.size (w.heap.size + 1) w3 (w3.setCell ⟨w.heap.size, 1, none⟩ (.int .i64 ((nn : Int) + 1)))) := B5
            clear M1 S1 B5
            repeat (first | go_values | go_skip | go_guarded | go_step | go_upon)
            refine ⟨⟨k + 1, ao3, cp3, hlt, by congr 1; omega, rfl, ?_, ?_, HZ3.out.but HB5.out (by omega), HB3.out.trans HB5.out⟩, by simp [intOf]; omega⟩
            · rw [hR]
              have h9 := own_but HO3.out HB5.out (fun g hg => by have := own_lt HO3.out hg; omega)
              rw [List.flatMap_append]
              exact h9
            · rw [hR, HT.out]
              exact HM3.out
    · have hke : k = N := by omega
      subst hke
      have hltB : decide (0 < (k : Int) - (k : Int)) = false := by simp
      obtain ⟨mk, hmk⟩ : ∃ x, (runS l (m0, m1, m2) k).1 = x := ⟨_, rfl⟩
      have HMK : Hid ((runS l (m0, m1, m2) k).1 = mk) := hmk
      rw [hmk] at LB
      obtain ⟨b0, b1, b2⟩ := mk
      dsimp only at LB
      have f0 := LB.cell 0 rfl
      have f1 := LB.cell 1 rfl
      have f2 := LB.cell 2 rfl
      have U0 := ZB
      have u0 := U0.cell 0 rfl
      have uf0 := U0.frozen 0
      have U1 := U0.set 0 (.string b0)
      simp only [List.set_cons_zero] at U1
      have u1 := U1.cell 1 rfl
      have uf1 := U1.frozen 1
      have U2 := U1.set 1 (.int .i64 b1)
      simp only [List.set_cons_zero, List.set_cons_succ] at U2
      have u2 := U2.cell 2 rfl
      have uf2 := U2.frozen 2
      have U3 := U2.set 2 (.string b2)
      simp only [List.set_cons_zero, List.set_cons_succ] at U3
      have uv0 := U3.cell 0 rfl
      have uv1 := U3.cell 1 rfl
      have uv2 := U3.cell 2 rfl
      have HOW : Hid (wr.ownsRow W1.heap.size 9 1 (.slice ao' k c') k ((runS l (m0, m1, m2) k).2.flatMap txtC)) := hown
      have HBK : Hid (But w.heap.size (w.heap.size + 1) W1 wr) := hbk
      have hRL := run_len l (m0, m1, m2) k
      clear U0 U1 U2 U3 ZB LB hown hbk hmk hok
      repeat (first | go_values | go_skip | go_guarded | go_step | go_upon)
      refine bodyPost_ret (v := .tuple #[.agg #[.string b0, .int .i64 b1, .string b2], .slice ao' k c', .bool true]) (by simp [results, Tryd.results6, go_sem, *]) rfl ?_
      have B9 : But (w.heap.size + 1) (w.heap.size + 2) wr (((wr.setCell ⟨w.heap.size + 1, 0, none⟩ (.string b0)).setCell ⟨w.heap.size + 1, 1, none⟩ (.int .i64 b1)).setCell ⟨w.heap.size + 1, 2, none⟩ (.string b2)) := ((((But.refl _ _ _)).setCell (by simp) (by simp) _).setCell (by simp) (by simp) _).setCell (by simp) (by simp) _
      have h9 := own_but HOW.out B9 (fun g hg => by have := own_lt HOW.out hg; omega)
      refine ⟨.slice ao' k c', by rw [HMK.out], ?_, ?_⟩
      · have h8 := RowO.top h9
        rw [show TxtO _ w.heap.size _ (.slice ao' k c') (runS l (m0, m1, m2) k).2 = RowO _ w.heap.size _ 9 1 (.slice ao' k c') (runS l (m0, m1, m2) k).2.length ((runS l (m0, m1, m2) k).2.flatMap txtC) from rfl, hRL]
        exact RowO.mono h8 (by omega) (Nat.le_refl _)
      · exact But.onto (But.onto HW1.out HBK.out (Nat.le_refl _)) B9 (by omega)

end Go.Proofs.YtapfafibhjpkdaaDoor
