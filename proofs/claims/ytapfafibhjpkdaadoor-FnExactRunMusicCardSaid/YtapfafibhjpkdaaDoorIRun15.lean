/-
  What RunMusic answers in the program.
-/
import Derived.Test.YtapfafibhjpkdaaDoorRunA15
import Derived.Test.YtapfafibhjpkdaaDoorLeave15
import Derived.Test.YtapfafibhjpkdaaDoorNext15
import Derived.Test.YtapfafibhjpkdaaDoorIMus15
namespace Go.Proofs.YtapfafibhjpkdaaDoor
open Go.ChangeShapes Go.WideShapes Go.ChangeAt Go.RowKit

set_option maxRecDepth 100000
set_option linter.unusedVariables false

set_option maxHeartbeats 8000000 in
theorem irun (l : List SectionD) (ao : Option Addr) (cap : Nat) (m0 : ByteArray) (m1 : Int) (m2 : ByteArray) (B : Int) (w : World) (hv : SecsAt w (.slice ao l.length cap) l) (hcap : l.length ≤ cap ∧ cap ≤ 9223372036854775807) (hn : secsCost l ≤ 1048576) (N : Nat) (hB : B = (N : Int)) (hN : N ≤ 1000) (hM : MusicP l (m0, m1, m2)) :
    Calls Tryd.prog 9 #[.slice ao l.length cap, .agg #[.string m0, .int .i64 m1, .string m2], .int .i64 B] w fun e w' => ∃ v', e = .returned (.tuple #[.agg #[.string (runS l (m0, m1, m2) N).1.1, .int .i64 (runS l (m0, m1, m2) N).1.2.1, .string (runS l (m0, m1, m2) N).1.2.2], v', .bool true]) ∧ TxtO w' w.heap.size w'.heap.size v' (runS l (m0, m1, m2) N).2 ∧ Kept w w' := by
  have K0 : Kept w ((w.alloc (.cells #[.string m0, .int .i64 m1, .string m2] 27)).alloc (.cells #[.string ⟨#[]⟩, .int .i64 0, .string ⟨#[]⟩] 27)) := ((But.refl _ _ _).alloc _).alloc _
  have hln : l.length ≤ 1048576 := by unfold secsCost at hn; omega
  have hmus := hM.2
  have hS := hM.1
  have q1 := dec_yes hM
  have d1 : decide (B < 0) = false := by simp; omega
  have d2 : decide (1000 < B) = false := by simp; omega
  obtain ⟨i0, hi0, hz0', hz1', hz2'⟩ := info_parts info_txt
  go_enter Tryd.func9, Tryd.ntmps9
  repeat (first | go_values | go_skip | go_guarded | go_step | go_upon)
  go_at_call 23
  refine (imusic l ao cap m0 m1 m2 _ (hv.kept K0) hcap hn).mono ?_
  rintro e W1 ⟨rfl, k1⟩
  rw [q1]
  have K1 := K0.trans k1
  have L1 := ((Loc.new w [.string m0, .int .i64 m1, .string m2] 27).alloc (.cells #[.string ⟨#[]⟩, .int .i64 0, .string ⟨#[]⟩] 27)).kept k1
  have Z1 := (Loc.new (w.alloc (.cells #[.string m0, .int .i64 m1, .string m2] 27)) [.string ⟨#[]⟩, .int .i64 0, .string ⟨#[]⟩] 27).kept k1
  simp only [World.size_alloc] at Z1
  have hz1 := Z1.lt
  have hz0 := L1.lt
  dsimp only
  have HW1 : Hid (Kept w W1) := K1
  have HL1 : Hid (Loc W1 w.heap.size [.string m0, .int .i64 m1, .string m2] ∧ Loc W1 (w.heap.size + 1) [.string ⟨#[]⟩, .int .i64 0, .string ⟨#[]⟩]) := ⟨L1, Z1⟩
  clear K0 k1 K1 L1 Z1
  repeat (first | go_values | go_skip | go_guarded | go_step | go_upon)
  clear d1 d2
  have hVB : ∀ W, But w.heap.size (w.heap.size + 1) W1 W → SecsAt W (.slice ao l.length cap) l := fun W hb => hv.kept (But.onto HW1.out hb (Nat.le_refl _))
  go_loopw [9, 24] (fun e i wr => ∃ (k : Nat) (ao' : Option Addr) (c' : Nat), k ≤ N ∧ i = .int .i64 k ∧ e = .slice ao' k c' ∧ wr.ownsRow W1.heap.size 9 1 (.slice ao' k c') k ((runS l (m0, m1, m2) k).2.flatMap txtC) ∧ Loc wr w.heap.size [.string (runS l (m0, m1, m2) k).1.1, .int .i64 (runS l (m0, m1, m2) k).1.2.1, .string (runS l (m0, m1, m2) k).1.2.2] ∧ Loc wr (w.heap.size + 1) [.string ⟨#[]⟩, .int .i64 0, .string ⟨#[]⟩] ∧ But w.heap.size (w.heap.size + 1) W1 wr) (fun e i _ => N - (intOf i).toNat)
  case atStart => exact ⟨0, none, 0, by omega, rfl, rfl, World.ownsRow_nil _ _ _ _, HL1.out.1, HL1.out.2, But.refl _ _ _⟩
  case round =>
    obtain ⟨k, ao', c', hk, rfl, rfl, hown, LB, ZB, hbk⟩ := hrel
    have hok := run_ok hS hmus k
    have hsw := hbk.size
    have HV : SecsAt wr (.slice ao l.length cap) l := hVB wr hbk
    by_cases hlt : k < N
    · have hltB : decide ((k : Int) < B) = true := by simp; omega
      have HR : Hid (runS l (m0, m1, m2) (k + 1) = (nextM l (leaveM l (runS l (m0, m1, m2) k).1), (runS l (m0, m1, m2) k).2 ++ [heardT (leaveM l (runS l (m0, m1, m2) k).1)])) := rfl
      obtain ⟨XS, hXS⟩ : ∃ x, (runS l (m0, m1, m2) k).2 = x := ⟨_, rfl⟩
      have hXl : XS.length = k := by rw [← hXS]; exact run_len _ _ _
      obtain ⟨mk, hmk⟩ : ∃ x, (runS l (m0, m1, m2) k).1 = x := ⟨_, rfl⟩
      rw [hXS] at hown HR
      rw [hmk] at LB HR hok
      obtain ⟨b0, b1, b2⟩ := mk
      have hlk := leave_ok hS hok
      obtain ⟨pm, hpm⟩ : ∃ x, leaveM l (b0, b1, b2) = x := ⟨_, rfl⟩
      have HLC := ileave l ao cap b0 b1 b2
      rw [hpm] at HR hlk HLC
      obtain ⟨hps, nn, hnn1, hnn2⟩ := mus_size hn hlk
      have hnn := hnn2 hS
      obtain ⟨p0, p1, p2⟩ := pm
      dsimp only at LB hps hnn1 HLC
      subst hnn1
      have HNC := inext l ao cap p0 (nn : Int) p2
      have hsz9 : ¬ 9223372036854775807 < p0.size + 1 := by omega
      have hsz8 : (p0 ++ ⟨#[58]⟩).size = p0.size + 1 := by rw [ByteArray.size_append]; rfl
      have hnt := numT_size nn
      have hsz7 : ¬ 9223372036854775807 < p0.size + 1 + (numT nn).size := by omega
      have HLC' : Hid (∀ W, SecsAt W (.slice ao l.length cap) l → Calls Tryd.prog 24 #[.slice ao l.length cap, .agg #[.string b0, .int .i64 b1, .string b2]] W fun e w' => e = .returned (.agg #[.string p0, .int .i64 (nn : Int), .string p2]) ∧ Kept W w') := fun W h => HLC W h hn hS hok
      have HNC' : Hid (∀ W, SecsAt W (.slice ao l.length cap) l → Calls Tryd.prog 26 #[.slice ao l.length cap, .agg #[.string p0, .int .i64 (nn : Int), .string p2]] W fun e w' => e = .returned (.agg #[.string (nextM l (p0, (nn : Int), p2)).1, .int .i64 (nextM l (p0, (nn : Int), p2)).2.1, .string (nextM l (p0, (nn : Int), p2)).2.2]) ∧ Kept W w') := fun W h => HNC W h hn hS hlk
      clear HLC HNC hpm hmk hXS hnn2 hok hlk
      have f0 := LB.cell 0 rfl
      have f1 := LB.cell 1 rfl
      have f2 := LB.cell 2 rfl
      have hgb := LB.lt
      have HOW : Hid (wr.ownsRow W1.heap.size 9 1 (.slice ao' k c') k (XS.flatMap txtC)) := hown
      have HZB : Hid (Loc wr (w.heap.size + 1) [.string ⟨#[]⟩, .int .i64 0, .string ⟨#[]⟩]) := ZB
      have HBK : Hid (But w.heap.size (w.heap.size + 1) W1 wr) := hbk
      clear hown ZB hbk
      repeat (first | go_values | go_skip | go_guarded | go_step | go_upon)
      go_at_call 24
      refine (HLC'.out _ HV).mono ?_
      rintro e w3 ⟨rfl, k3⟩
      have L3 := LB.kept k3
      have s3 := k3.size
      have g0 := L3.cell 0 rfl
      have gf0 := L3.frozen 0
      have M0 := L3.set 0 (.string p0)
      simp only [List.set_cons_zero] at M0
      have g1 := M0.cell 1 rfl
      have gf1 := M0.frozen 1
      have M1 := M0.set 1 (.int .i64 (nn : Int))
      simp only [List.set_cons_zero, List.set_cons_succ] at M1
      have g2 := M1.cell 2 rfl
      have gf2 := M1.frozen 2
      have M2 := M1.set 2 (.string p2)
      simp only [List.set_cons_zero, List.set_cons_succ] at M2
      have B3 : But w.heap.size (w.heap.size + 1) wr (((w3.setCell ⟨w.heap.size, 0, none⟩ (.string p0)).setCell ⟨w.heap.size, 1, none⟩ (.int .i64 (nn : Int))).setCell ⟨w.heap.size, 2, none⟩ (.string p2)) := (((But.of k3).setCell (by simp) (by simp) _).setCell (by simp) (by simp) _).setCell (by simp) (by simp) _
      have HM2 : Hid (Loc (((w3.setCell ⟨w.heap.size, 0, none⟩ (.string p0)).setCell ⟨w.heap.size, 1, none⟩ (.int .i64 (nn : Int))).setCell ⟨w.heap.size, 2, none⟩ (.string p2)) w.heap.size [.string p0, .int .i64 (nn : Int), .string p2]) := M2
      have HB3' : Hid (But w.heap.size (w.heap.size + 1) wr (((w3.setCell ⟨w.heap.size, 0, none⟩ (.string p0)).setCell ⟨w.heap.size, 1, none⟩ (.int .i64 (nn : Int))).setCell ⟨w.heap.size, 2, none⟩ (.string p2))) := B3
      clear L3 M0 M1 M2 B3 LB f0 f1 f2 HV
      dsimp only
      repeat (first | go_values | go_skip | go_guarded | go_step | go_upon)
      clear g0 g1 g2 gf0 gf1 gf2
      generalize (((w3.setCell ⟨w.heap.size, 0, none⟩ (.string p0)).setCell ⟨w.heap.size, 1, none⟩ (.int .i64 (nn : Int))).setCell ⟨w.heap.size, 2, none⟩ (.string p2)) = Y at *
      have HOY : Hid (Y.ownsRow W1.heap.size 9 1 (.slice ao' k c') k (XS.flatMap txtC)) := own_but HOW.out HB3'.out (fun g hg => by have := own_lt HOW.out hg; omega)
      have YL : Hid (Loc Y w.heap.size [.string p0, .int .i64 (nn : Int), .string p2]) := HM2.out
      have ZL : Hid (Loc Y (w.heap.size + 1) [.string ⟨#[]⟩, .int .i64 0, .string ⟨#[]⟩]) := HZB.out.but HB3'.out (by omega)
      have HBY : Hid (But w.heap.size (w.heap.size + 1) W1 Y) := HBK.out.trans HB3'.out
      have hYs := HBY.out.size
      clear HM2 HB3' HOW HZB HBK k3
      refine wp_region_Z (fun w' => w'.cell? ⟨w.heap.size, 0, none⟩ = some (.string p0) ∧ w'.cell? ⟨w.heap.size, 1, none⟩ = some (.int .i64 (nn : Int))) 10 (by kernel_rfl) ?_
      have hS9 : (fun w' => w'.cell? ⟨w.heap.size, 0, none⟩ = some (.string p0) ∧ w'.cell? ⟨w.heap.size, 1, none⟩ = some (.int .i64 (nn : Int))) Y.drew := ⟨by have := YL.out.cell 0 rfl; simpa using this, by have := YL.out.cell 1 rfl; simpa using this⟩
      refine wpAnyZ_take (i := 0) (v := .slice ao' k c') rfl (by kernel_rfl) (by kernel_rfl) (by kernel_rfl) (by kernel_rfl) (fun _ _ _ h => h) (Or.inl ⟨by rfl, ?_⟩) hS9 ?_
      · intro w' hSw; obtain ⟨s0, s1⟩ := hSw; go_simp
      try simp only [Act.put]
      refine wpAnyZ_take (i := 1) (v := .pointer (some ⟨w.heap.size, 0, none⟩)) rfl (by kernel_rfl) (by kernel_rfl) (by kernel_rfl) (by kernel_rfl) (fun _ _ _ h => h) (Or.inl ⟨by rfl, ?_⟩) hS9 ?_
      · intro w' hSw; obtain ⟨s0, s1⟩ := hSw; go_simp
      try simp only [Act.put]
      refine wpAnyZ_take (i := 2) (v := .string p0) rfl (by kernel_rfl) (by kernel_rfl) (by kernel_rfl) (by kernel_rfl) (fun _ _ _ h => h) (Or.inl ⟨by rfl, ?_⟩) hS9 ?_
      · intro w' hSw; obtain ⟨s0, s1⟩ := hSw; go_simp
      try simp only [Act.put]
      refine wpAnyZ_take (i := 3) (v := .string (p0 ++ ⟨#[58]⟩)) rfl (by kernel_rfl) (by kernel_rfl) (by kernel_rfl) (by kernel_rfl) (fun _ _ _ h => h) (Or.inl ⟨by rfl, ?_⟩) hS9 ?_
      · intro w' hSw; obtain ⟨s0, s1⟩ := hSw; go_simp
      try simp only [Act.put]
      refine wpAnyZ_take (i := 4) (v := .pointer (some ⟨w.heap.size, 1, none⟩)) rfl (by kernel_rfl) (by kernel_rfl) (by kernel_rfl) (by kernel_rfl) (fun _ _ _ h => h) (Or.inl ⟨by rfl, ?_⟩) hS9 ?_
      · intro w' hSw; obtain ⟨s0, s1⟩ := hSw; go_simp
      try simp only [Act.put]
      refine wpAnyZ_take (i := 5) (v := .int .i64 (nn : Int)) rfl (by kernel_rfl) (by kernel_rfl) (by kernel_rfl) (by kernel_rfl) (fun _ _ _ h => h) (Or.inl ⟨by rfl, ?_⟩) hS9 ?_
      · intro w' hSw; obtain ⟨s0, s1⟩ := hSw; go_simp
      try simp only [Act.put]
      refine wpAnyZ_one (i := 6) (by kernel_rfl) rfl ?_
      intro K hK
      rw [if_pos (by rfl)]
      go_simp
      go_at_call 25
      refine (iitoa nn _ hnn).mono ?_
      rintro e y2 ⟨rfl, k2⟩
      have ky : Kept Y y2 := by rw [k2]; exact (But.refl _ _ _).drew
      clear k2
      have hS8 : (fun w' => w'.cell? ⟨w.heap.size, 0, none⟩ = some (.string p0) ∧ w'.cell? ⟨w.heap.size, 1, none⟩ = some (.int .i64 (nn : Int))) y2 := ⟨(YL.out.kept ky).cell 0 rfl, (YL.out.kept ky).cell 1 rfl⟩
      clear hS9
      dsimp only
      refine hK.out _ _ (fun _ => hS8) ?_
      clear hK K
      try simp only [Act.put]
      refine wpAnyZ_one (i := 7) (by kernel_rfl) rfl ?_
      intro K hK
      rw [if_pos (by rfl)]
      go_simp
      refine hK.out _ _ (fun _ => hS8) ?_
      clear hK K
      try simp only [Act.put]
      refine wpAnyZ_one (i := 8) (by kernel_rfl) rfl ?_
      intro K hK
      rw [if_pos (by rfl)]
      go_simp
      obtain ⟨y3, hy3⟩ : ∃ y, y = y2.alloc (.cells #[.string (p0 ++ ⟨#[58]⟩ ++ numT nn)] 9) := ⟨_, rfl⟩
      rw [← hy3]
      have ky3 : Kept y2 y3 := by rw [hy3]; exact (But.refl _ _ _).alloc _
      have L9 : Loc y3 y2.heap.size [.string (p0 ++ ⟨#[58]⟩ ++ numT nn)] := by rw [hy3]; exact Loc.new y2 _ _
      have ky9 := ky.trans ky3
      have hS7 : (fun w' => w'.cell? ⟨w.heap.size, 0, none⟩ = some (.string p0) ∧ w'.cell? ⟨w.heap.size, 1, none⟩ = some (.int .i64 (nn : Int))) y3 := ⟨(YL.out.kept ky9).cell 0 rfl, (YL.out.kept ky9).cell 1 rfl⟩
      clear hy3 hS8
      refine hK.out _ _ (fun _ => hS7) ?_
      clear hK K
      try simp only [Act.put]
      have s9 := ky9.size
      have hO9 := own_kept HOY.out ky9
      refine wpAnyZ_one (i := 9) (by kernel_rfl) rfl ?_
      intro K hK
      refine step_append_own rfl (.tmp 29) (.tmp 37) 28 rfl W1.heap.size 9 i0 (.string ⟨#[]⟩) 1 16 Tryd.underlying28 hi0 hz0' hz1' hz2' rfl (by decide) (.slice ao' k c') k (XS.flatMap txtC) (by simp [Act.eval]) hO9 ⟨y2.heap.size, 0, none⟩ 1 1 [.string (p0 ++ ⟨#[58]⟩ ++ numT nn)] (by simp [Act.eval]) rfl (news_txt L9) (by simp [Value.oneCell']) (by unfold maxLen; omega) (by omega) (by omega) ?_
      intro v3 w3 hown hgrow
      obtain ⟨ao3, cp3, hf3, _⟩ := own_form hown
      subst hf3
      have YL3 := (YL.out.kept ky9).grown hgrow (fun e => by have := own_lt hO9 e; omega)
      have ZL3 := (ZL.out.kept ky9).grown hgrow (fun e => by have := own_lt hO9 e; omega)
      have HB3 : Hid (But w.heap.size (w.heap.size + 1) W1 w3) := ((HBY.out.transK ky9).grown hgrow (fun k hk => .inl (own_lt hO9 hk).1))
      have HO3 : Hid (w3.ownsRow W1.heap.size 9 1 (.slice ao3 (k + 1) cp3) (k + 1) (XS.flatMap txtC ++ [.string (p0 ++ ⟨#[58]⟩ ++ numT nn)])) := hown
      have HY3 : Hid (Loc w3 w.heap.size [.string p0, .int .i64 (nn : Int), .string p2]) := YL3
      have HZ3 : Hid (Loc w3 (w.heap.size + 1) [.string ⟨#[]⟩, .int .i64 0, .string ⟨#[]⟩]) := ZL3
      refine hK.out _ _ (fun _ => ⟨YL3.cell 0 rfl, YL3.cell 1 rfl⟩) ?_
      clear hK K hown hgrow YL3 ZL3 hO9 L9 ky ky3 ky9 hS7
      try simp only [Act.put]
      refine wpAnyZ_one (i := 10) (by kernel_rfl) rfl ?_
      intro K hK
      rw [if_pos (by rfl)]
      go_simp
      refine hK.out _ _ (fun h => absurd rfl h) ?_
      clear hK K
      refine wpAnyZ_done (by kernel_rfl) ?_ _
      try simp only [Act.put]
      have t0 := HY3.out.cell 0 rfl
      have t1 := HY3.out.cell 1 rfl
      have t2 := HY3.out.cell 2 rfl
      have hgb3 := HY3.out.lt
      have HV3 : SecsAt w3 (.slice ao l.length cap) l := hVB w3 HB3.out
      repeat (first | go_values | go_skip | go_guarded | go_step | go_upon)
      go_at_call 26
      refine (HNC'.out _ HV3).mono ?_
      rintro e w5 ⟨rfl, k5⟩
      have L5 := HY3.out.kept k5
      have s5 := k5.size
      obtain ⟨qm, hqm⟩ : ∃ x, nextM l (p0, (nn : Int), p2) = x := ⟨_, rfl⟩
      rw [hqm] at HR ⊢
      obtain ⟨q0, q1', q2⟩ := qm
      have g0 := L5.cell 0 rfl
      have gf0 := L5.frozen 0
      have N0 := L5.set 0 (.string q0)
      simp only [List.set_cons_zero] at N0
      have g1 := N0.cell 1 rfl
      have gf1 := N0.frozen 1
      have N1 := N0.set 1 (.int .i64 q1')
      simp only [List.set_cons_zero, List.set_cons_succ] at N1
      have g2 := N1.cell 2 rfl
      have gf2 := N1.frozen 2
      have N2 := N1.set 2 (.string q2)
      simp only [List.set_cons_zero, List.set_cons_succ] at N2
      have B5 : But w.heap.size (w.heap.size + 1) w3 (((w5.setCell ⟨w.heap.size, 0, none⟩ (.string q0)).setCell ⟨w.heap.size, 1, none⟩ (.int .i64 q1')).setCell ⟨w.heap.size, 2, none⟩ (.string q2)) := (((But.of k5).setCell (by simp) (by simp) _).setCell (by simp) (by simp) _).setCell (by simp) (by simp) _
      have HN2 : Hid (Loc (((w5.setCell ⟨w.heap.size, 0, none⟩ (.string q0)).setCell ⟨w.heap.size, 1, none⟩ (.int .i64 q1')).setCell ⟨w.heap.size, 2, none⟩ (.string q2)) w.heap.size [.string q0, .int .i64 q1', .string q2]) := N2
      have HB5 : Hid (But w.heap.size (w.heap.size + 1) w3 (((w5.setCell ⟨w.heap.size, 0, none⟩ (.string q0)).setCell ⟨w.heap.size, 1, none⟩ (.int .i64 q1')).setCell ⟨w.heap.size, 2, none⟩ (.string q2))) := B5
      clear L5 N0 N1 N2 B5 t0 t1 t2 HV3
      dsimp only
      repeat (first | go_values | go_skip | go_guarded | go_step | go_upon)
      have hR := HR.out
      refine ⟨⟨k + 1, ao3, cp3, hlt, by go_num, rfl, ?_, ?_, HZ3.out.but HB5.out (by omega), HB3.out.trans HB5.out⟩, by simp [intOf]; omega⟩
      · rw [hR]
        have h9 := own_but HO3.out HB5.out (fun g hg => by have := own_lt HO3.out hg; omega)
        rw [List.flatMap_append]
        exact h9
      · rw [hR]
        exact HN2.out
    · have hke : k = N := by omega
      subst hke
      have hltB : decide ((k : Int) < B) = false := by simp; omega
      obtain ⟨mk, hmk⟩ : ∃ x, (runS l (m0, m1, m2) k).1 = x := ⟨_, rfl⟩
      have HMK : Hid ((runS l (m0, m1, m2) k).1 = mk) := hmk
      rw [hmk] at LB
      obtain ⟨b0, b1, b2⟩ := mk
      dsimp only at LB
      have f0 := LB.cell 0 rfl
      have f1 := LB.cell 1 rfl
      have f2 := LB.cell 2 rfl
      have U0 := ZB
      have u0 := U0.cell 0 rfl
      have uf0 := U0.frozen 0
      have U1 := U0.set 0 (.string b0)
      simp only [List.set_cons_zero] at U1
      have u1 := U1.cell 1 rfl
      have uf1 := U1.frozen 1
      have U2 := U1.set 1 (.int .i64 b1)
      simp only [List.set_cons_zero, List.set_cons_succ] at U2
      have u2 := U2.cell 2 rfl
      have uf2 := U2.frozen 2
      have U3 := U2.set 2 (.string b2)
      simp only [List.set_cons_zero, List.set_cons_succ] at U3
      have uv0 := U3.cell 0 rfl
      have uv1 := U3.cell 1 rfl
      have uv2 := U3.cell 2 rfl
      have HOW : Hid (wr.ownsRow W1.heap.size 9 1 (.slice ao' k c') k ((runS l (m0, m1, m2) k).2.flatMap txtC)) := hown
      have HBK : Hid (But w.heap.size (w.heap.size + 1) W1 wr) := hbk
      have hRL := run_len l (m0, m1, m2) k
      clear U0 U1 U2 U3 ZB LB hown hbk hmk HV hok
      repeat (first | go_values | go_skip | go_guarded | go_step | go_upon)
      refine bodyPost_ret (v := .tuple #[.agg #[.string b0, .int .i64 b1, .string b2], .slice ao' k c', .bool true]) (by simp [results, Tryd.results9, go_sem, *]) rfl ?_
      have B9 : But (w.heap.size + 1) (w.heap.size + 2) wr (((wr.setCell ⟨w.heap.size + 1, 0, none⟩ (.string b0)).setCell ⟨w.heap.size + 1, 1, none⟩ (.int .i64 b1)).setCell ⟨w.heap.size + 1, 2, none⟩ (.string b2)) := ((((But.refl _ _ _)).setCell (by simp) (by simp) _).setCell (by simp) (by simp) _).setCell (by simp) (by simp) _
      have h9 := own_but HOW.out B9 (fun g hg => by have := own_lt HOW.out hg; omega)
      refine ⟨.slice ao' k c', by rw [HMK.out], ?_, ?_⟩
      · have h8 := RowO.top h9
        rw [show TxtO _ w.heap.size _ (.slice ao' k c') (runS l (m0, m1, m2) k).2 = RowO _ w.heap.size _ 9 1 (.slice ao' k c') (runS l (m0, m1, m2) k).2.length ((runS l (m0, m1, m2) k).2.flatMap txtC) from rfl, hRL]
        exact RowO.mono h8 (by omega) (Nat.le_refl _)
      · exact But.onto (But.onto HW1.out HBK.out (Nat.le_refl _)) B9 (by omega)

end Go.Proofs.YtapfafibhjpkdaaDoor
