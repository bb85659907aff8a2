/-
  What the program's ShuffleBy answers.
-/
import Derived.Test.YtpeiblodefaajaaShuf12
namespace Go.Proofs.Ytpeiblodefaajaa
open Go.ChangeShapes Go.WideShapes Go.ChangeAt Go.RowKit

set_option maxRecDepth 100000
set_option linter.unusedVariables false
set_option maxHeartbeats 4000000 in
theorem ishuf (m sd : Int) (w : World) : Calls Try.prog 21 #[.int .i64 m, .int .i64 sd] w fun e w' => ∃ v, e = .returned (.tuple #[v, .int .i64 (shufA m sd).2.1, .bool (shufA m sd).2.2]) ∧ NumO w' w.heap.size w'.heap.size v (shufA m sd).1 ∧ Kept w w' := by
  by_cases h1 : 0 ≤ m ∧ m ≤ 60
  · have d0 : decide (m < 0) = false := by simp; omega
    have d1 : decide (60 < m) = false := by simp; omega
    by_cases h2 : 0 ≤ sd ∧ sd ≤ 2147483647
    · have d2 : decide (0 ≤ sd ∧ sd ≤ 2147483647) = true := decide_eq_true h2
      have HP : Hid (ShufP m sd) := ⟨h1, h2⟩
      obtain ⟨M, rfl⟩ := Int.eq_ofNat_of_zero_le h1.1
      have hM : M ≤ 60 := by omega
      obtain ⟨⟨R, z⟩, hR⟩ : ∃ p, shufL (M - 1) (rangeL M) sd = p := ⟨_, rfl⟩
      have HA : Hid (shufA (M : Int) sd = (R, z, true)) := shufA_yes HP.out hR
      have HR : Hid (shufL (M - 1) (rangeL M) sd = (R, z)) := hR
      clear hR
      obtain ⟨i0, hi, hz0, hz1, hz2⟩ := info_parts info_num
      obtain ⟨W0, hW0⟩ : ∃ W, W = w.alloc (.cells #[.int .i64 sd] 3) := ⟨_, rfl⟩
      have L0 : Loc W0 w.heap.size [.int .i64 sd] := by rw [hW0]; exact Loc.new w _ 3
      have K0 : Kept w W0 := by rw [hW0]; exact (But.refl _ _ _).alloc _
      have HW0 : Hid (W0 = _) := hW0
      have hmk : (Instr.makeSlice 39 (.int .i64 (M : Int)) (.int .i64 (M : Int))).run Try.prog W0 = .ok (.slice (some ⟨W0.heap.size, 0, none⟩) M M) (W0.alloc (.cells (madeCells #[.int .i64 0] (M * 1)) 3)) := by
        have := run_make (P := Try.prog) W0 39 3 i0 _ Try.underlying39 hi hz0 .i64 .i64 (M : Int) (M : Int) (by omega) (by omega) (by rw [hz2]; omega) (by omega)
        rw [this, hz1]
        simp [Value.cells]
      have hm := row_made W0 W0.heap.size 3 #[.int .i64 0] 1 (by omega) numC num0 numC_len rfl M (Nat.le_refl _) (by unfold maxLen; omega)
      clear hi hz0 hz1 hz2 hW0
      have f0 := L0.cell 0 rfl
      go_enter Try.func21, Try.ntmps21
      repeat (first | (rw [← HW0.out]) | (go_at_call 33; refine (iseed _ _).mono ?_; rintro e w1 ⟨rfl, hw1⟩; rw [hw1, d2]; clear hw1 w1; dsimp only) | go_values | go_skip | go_guarded | go_step | go_upon)
      clear hmk d0 d1 d2
      go_loopw [27] (fun i wr => ∃ k : Nat, k ≤ M ∧ i = .int .i64 k ∧ NumO wr W0.heap.size (W0.heap.size + 1) (.slice (some ⟨W0.heap.size, 0, none⟩) M M) ((rangeL M).take k ++ List.replicate ((rangeL M).length - k) num0) ∧ Kept W0 wr ∧ W0.heap.size < wr.heap.size) (fun i _ => M - (intOf i).toNat)
      case atStart => exact ⟨0, by omega, rfl, by rw [rangeL_len]; simpa [NumO] using hm, (But.refl _ _ _).alloc _, by simp⟩
      case round =>
        obtain ⟨k, hk, rfl, ho, hkp, hnb⟩ := hrel
        clear hm
        by_cases hlt : k < M
        · have hlt' : k < (rangeL M).length := by rw [rangeL_len]; exact hlt
          obtain ⟨c0, dz⟩ := ho.cells (fill_get (rangeL M) num0 hlt')
          have dz0 := dz k
          have d5 := ho.set ((rangeL_len M).symm.trans (fill_len (rangeL M) num0 (by omega)).symm) (fill_get (rangeL M) num0 hlt') (k : Int)
          have HS : Hid _ := d5
          have HKP : Hid _ := hkp
          clear d5 dz ho hkp
          go_wp2
          refine ⟨⟨k + 1, hlt, by go_num, ?_, HKP.out.setNew (by simp) _, by simpa using hnb⟩, by simp [intOf]; omega⟩
          rw [← fill_set (rangeL M) num0 (rangeL_get hlt)]
          exact HS.out
        · have hke : k = M := by omega
          subst hke
          have hN : NumO wr W0.heap.size (W0.heap.size + 1) (.slice (some ⟨W0.heap.size, 0, none⟩) k k) (rangeL k) := by
            have := ho
            rw [rangeL_len, Nat.sub_self, List.take_of_length_le (by rw [rangeL_len]; omega)] at this
            simpa using this
          have HN : Hid (NumO wr W0.heap.size (W0.heap.size + 1) (.slice (some ⟨W0.heap.size, 0, none⟩) k k) (rangeL k)) := hN
          have HK : Hid (Kept W0 wr) := hkp
          have L1 := L0.kept hkp
          have HL1 : Hid (Loc wr w.heap.size [.int .i64 sd]) := L1
          have hsz := L0.lt
          have hwz := hkp.size
          clear hN ho hkp L1
          rename World => wb
          repeat (first | go_values | go_skip | go_guarded | go_step | go_upon)
          go_at_call 38
          refine (ifromL _ _).mono ?_
          rintro e u2 ⟨rfl, Lb, k2⟩
          have HN : Hid (NumO u2 W0.heap.size (W0.heap.size + 1) (.slice (some ⟨W0.heap.size, 0, none⟩) k k) (rangeL k)) := HN.out.kept k2
          have HK : Hid (Kept W0 u2) := HK.out.trans k2
          have HL1 : Hid (Loc u2 w.heap.size [.int .i64 sd]) := HL1.out.kept k2
          have HLB : Hid (Loc u2 wb.heap.size [.pointer (some ⟨w.heap.size, 0, none⟩)]) := Lb
          clear k2 Lb
          dsimp only
          repeat (first | go_values | go_skip | go_guarded | go_step | go_upon)
          go_loopw [10] (fun i wr => ∃ (x s : Int) (l : List Int), -1 ≤ x ∧ x < k ∧ i = .int .i64 x ∧ 0 ≤ s ∧ s ≤ 2147483647 ∧ Hid (shufL x.toNat l s = (R, z) ∧ l.length = k) ∧ NumO wr W0.heap.size (W0.heap.size + 1) (.slice (some ⟨W0.heap.size, 0, none⟩) k k) l ∧ Loc wr w.heap.size [.int .i64 s] ∧ Loc wr wb.heap.size [.pointer (some ⟨w.heap.size, 0, none⟩)] ∧ Kept w wr) (fun i _ => (intOf i).toNat)
          case atStart => exact ⟨(k : Int) - 1, sd, rangeL k, by omega, by omega, rfl, by omega, by omega, (⟨by rw [show ((k : Int) - 1).toNat = k - 1 by omega]; exact HR.out, rangeL_len k⟩ : shufL ((k : Int) - 1).toNat (rangeL k) sd = (R, z) ∧ (rangeL k).length = k), HN.out, HL1.out, HLB.out, K0.trans HK.out⟩
          case round =>
            obtain ⟨x, s, l, hx0, hx1, rfl, hs0, hs1, HS, ho, Ls, Lb, hkp⟩ := hrel
            have HKP : Hid (Kept w wr) := hkp
            have HL : Hid (l.length = k) := HS.out.2
            clear hkp
            by_cases hpos : 0 < x
            · obtain ⟨j, hj⟩ := Int.eq_ofNat_of_zero_le (show 0 ≤ x - 1 by omega)
              obtain rfl : x = ((j + 1 : Nat) : Int) := by omega
              have hstep := HS.out.1
              rw [Int.toNat_natCast, shufL] at hstep
              have hcb := coinC_bd s
              obtain ⟨q, hq⟩ := Int.eq_ofNat_of_zero_le (show 0 ≤ coinC s % (((j + 1 : Nat) : Int) + 1) from Int.emod_nonneg _ (by omega))
              have hq2 : coinC s % (((j + 1 : Nat) : Int) + 1) < ((j + 1 : Nat) : Int) + 1 := Int.emod_lt_of_pos _ (by omega)
              have hqj : q < j + 2 := by omega
              rw [hq, Int.toNat_natCast] at hstep
              have HST : Hid (shufL j (swapL l (j + 1) q) (coinN s) = (R, z)) := hstep
              have hqm : coinC s % ((j : Int) + 1 + 1) = (q : Int) := by rw [← hq, Int.natCast_succ]
              clear hstep hq hq2 HS
              obtain ⟨a, ha⟩ : ∃ p : Int, l[j + 1]? = some p := ⟨_, List.getElem?_eq_getElem (by have := HL.out; omega)⟩
              obtain ⟨b, hb⟩ : ∃ p : Int, l[q]? = some p := ⟨_, List.getElem?_eq_getElem (by have := HL.out; omega)⟩
              have HO : Hid (NumO wr W0.heap.size (W0.heap.size + 1) (.slice (some ⟨W0.heap.size, 0, none⟩) k k) l) := ho
              have HLs : Hid (Loc wr w.heap.size [.int .i64 s]) := Ls
              have HLb : Hid (Loc wr wb.heap.size [.pointer (some ⟨w.heap.size, 0, none⟩)]) := Lb
              have Ha : Hid _ := ha
              have Hb : Hid _ := hb
              clear ho Ls Lb ha hb
              repeat (first | go_values | go_skip | go_guarded | go_step | go_upon)
              go_at_call 43
              refine (iflipL _ _ _ _ _ hs0 hs1 HLb.out HLs.out).mono ?_
              rintro e u3 ⟨rfl, L3, k3⟩
              have ho := HO.out.but k3 (by omega)
              have hset := swap_set ho HL.out.symm Ha.out Hb.out
              obtain ⟨f1, fz⟩ := ho.cells Ha.out
              have f2 := (ho.cells Hb.out).1
              have z1 := fz (j + 1)
              have z2 := fz q
              have f3 := ((ho.set HL.out.symm Ha.out b).cells (i := q) (p := (l.set (j + 1) b).getD q 0) (by rw [List.getD_eq_getElem?_getD, List.getElem?_eq_getElem (by have := HL.out; simp; omega)]; rfl)).1
              have HSET : Hid (NumO _ _ _ _ _) := hset
              have HLb : Hid (Loc u3 wb.heap.size [.pointer (some ⟨w.heap.size, 0, none⟩)]) := HLb.out.but k3 (by omega)
              have HLs : Hid (Loc u3 w.heap.size [.int .i64 (coinN s)]) := L3
              have HKP : Hid (Kept w u3) := HKP.out.onto k3 (Nat.le_refl _)
              clear hset fz ho k3 L3 HO Ha Hb
              dsimp only
              repeat (first | go_values | go_skip | go_guarded | go_step | go_upon)
              go_big_region
              repeat (first | go_values | go_skip | go_guarded | go_step | go_upon)
              have hcn := coinN_bd s
              have K4 := (((But.refl W0.heap.size (W0.heap.size + 1) u3).setCell (p := ⟨W0.heap.size, j + 1, none⟩) (by simp) (by simp) (.int .i64 b)).setCell (p := ⟨W0.heap.size, q, none⟩) (by simp) (by simp) (.int .i64 a)).drew
              exact ⟨⟨(j : Int), coinN s, swapL l (j + 1) q, by omega, by omega, by go_num, hcn.1, hcn.2, (⟨by rw [Int.toNat_natCast]; exact HST.out, (swapL_len _ _ _).trans HL.out⟩ : shufL (j : Int).toNat (swapL l (j + 1) q) (coinN s) = (R, z) ∧ (swapL l (j + 1) q).length = k), HSET.out.kept ((But.refl _ _ _).drew), HLs.out.but K4 (by omega), HLb.out.but K4 (by omega), HKP.out.onto K4 (by omega)⟩, by simp [intOf]⟩
            · have hx : x.toNat = 0 := by omega
              have he := HS.out.1
              rw [hx, shufL] at he
              have HE : Hid ((l, s) = (R, z)) := he
              have hdx : decide (0 < x) = false := by simp; omega
              have HO : Hid (NumO wr W0.heap.size (W0.heap.size + 1) (.slice (some ⟨W0.heap.size, 0, none⟩) k k) l) := ho
              have fs := Ls.cell 0 rfl
              clear he ho HS hpos Ls Lb
              repeat (first | go_values | go_skip | go_guarded | go_step | go_upon)
              go_quiet (fail)
              go_wp2
              go_returns
              have hrl := HE.out
              cases hrl
              refine ⟨_, retS HA.out, ?_, HKP.out.drewN _⟩
              rw [HA.out]
              exact ((HO.out.kept ((But.refl _ _ wr).drewN _)).low).mono (by omega) (Nat.le_refl _)
    · rw [shufA_no (fun h => h2 h.2)]
      have d2 : decide (0 ≤ sd ∧ sd ≤ 2147483647) = false := decide_eq_false h2
      go_enter Try.func21, Try.ntmps21
      go_wp2_with (go_at_call 33; refine (iseed _ _).mono ?_; rintro e w1 ⟨rfl, hw1⟩; rw [hw1, d2]; clear hw1 w1)
      go_returns
      exact ⟨_, rfl, num_nil _ _ _, (But.refl _ _ _).alloc _⟩
  · rw [shufA_no (fun h => h1 h.1)]
    by_cases h3 : m < 0
    · go_enter Try.func21, Try.ntmps21
      go_wp2
      go_returns
      exact ⟨_, rfl, num_nil _ _ _, (But.refl _ _ _).alloc _⟩
    · have d0 : decide (m < 0) = false := by simp; omega
      have d1 : decide (60 < m) = true := by simp; omega
      go_enter Try.func21, Try.ntmps21
      go_wp2
      go_returns
      exact ⟨_, rfl, num_nil _ _ _, (But.refl _ _ _).alloc _⟩

end Go.Proofs.Ytpeiblodefaajaa
