/-
  What the specification's ShuffleBy answers.
-/
import Derived.Test.YtpeiblodefaajaaShuf12
namespace Go.Proofs.Ytpeiblodefaajaa
open Go.ChangeShapes Go.WideShapes Go.ChangeAt Go.RowKit

set_option maxRecDepth 100000
set_option linter.unusedVariables false
set_option maxHeartbeats 4000000 in
theorem sshuf (m sd : Int) (w : World) : Calls Try.prog 20 #[.int .i64 m, .int .i64 sd] w fun e w' => ∃ v, e = .returned (.tuple #[v, .int .i64 (shufA m sd).2.1, .bool (shufA m sd).2.2]) ∧ NumO w' w.heap.size w'.heap.size v (shufA m sd).1 ∧ Kept w w' := by
  by_cases h1 : 0 ≤ m ∧ m ≤ 60
  · have d1 : decide (0 ≤ m ∧ m ≤ 60) = true := decide_eq_true h1
    by_cases h2 : 0 ≤ sd ∧ sd ≤ 2147483647
    · have d2 : decide (0 ≤ sd ∧ sd ≤ 2147483647) = true := decide_eq_true h2
      have HP : Hid (ShufP m sd) := ⟨h1, h2⟩
      obtain ⟨M, rfl⟩ := Int.eq_ofNat_of_zero_le h1.1
      have hM : M ≤ 60 := by omega
      obtain ⟨⟨R, z⟩, hR⟩ : ∃ p, shufL (M - 1) (rangeL M) sd = p := ⟨_, rfl⟩
      have HA : Hid (shufA (M : Int) sd = (R, z, true)) := shufA_yes HP.out hR
      have HR : Hid (shufL (M - 1) (rangeL M) sd = (R, z)) := hR
      have hRl : R.length = M := by have := shufL_len (M - 1) (rangeL M) sd; rw [hR, rangeL_len] at this; exact this
      clear hR
      obtain ⟨i0, hi0, hz0, hz1, hz2⟩ := info_parts info_num
      go_enter Try.func20, Try.ntmps20
      go_wp2_with (first | (go_at_call 26; refine (sIn _ _ _ _).mono ?_; rintro e w1 ⟨rfl, hw1⟩; rw [hw1, d1]; clear hw1 w1) | (go_at_call 30; refine (sseed _ _).mono ?_; rintro e w1 ⟨rfl, hw1⟩; rw [hw1, d2]; clear hw1 w1))
      clear d1 d2 h1
      go_loopw [7, 8] (fun x i wr => ∃ (k : Nat) (ao' : Option Addr) (c' : Nat), k ≤ M ∧ i = .int .i64 k ∧ x = .slice ao' k c' ∧ wr.ownsRow w.heap.size 3 1 (.slice ao' k c') k ((rangeL k).flatMap numC) ∧ Kept w wr) (fun _ i _ => M - (intOf i).toNat)
      case atStart => exact ⟨0, none, 0, by omega, rfl, rfl, World.ownsRow_nil _ _ _ _, But.refl _ _ _⟩
      case round =>
        obtain ⟨k, ao', c', hk, rfl, rfl, hown, hkp⟩ := hrel
        have HO : Hid (wr.ownsRow w.heap.size 3 1 (.slice ao' k c') k ((rangeL k).flatMap numC)) := hown
        have HK : Hid (Kept w wr) := hkp
        have hwz := hkp.size
        clear hown hkp
        by_cases hlt : k < M
        · repeat (first
            | (at_builtin
               refine wpList_append_own _ rfl _ _ 39 rfl w.heap.size 3 i0 (.int .i64 0) 1 8 Try.underlying39 hi0 hz0 hz1 hz2 rfl (by decide) _ _ _ rfl (own_kept HO.out ((But.refl _ _ wr).alloc _)) ⟨wr.heap.size, 0, none⟩ 1 1 [.int .i64 (k : Int)] rfl rfl (news1 (Loc.new wr [.int .i64 (k : Int)] 3)) (by simp [Value.oneCell']) (by unfold maxLen; omega) (by omega) (by simp; omega) ?_
               intro v' w2 hown' hgrow _
               obtain ⟨ao5, cap5, hf5, _⟩ := own_form hown'
               subst hf5
               have HK5 : Hid (Kept w w2) := (HK.out.alloc _).grown hgrow (by intro x hx; have := own_lt HO.out hx; omega)
               have HW : Hid (w2.ownsRow w.heap.size 3 1 (.slice ao5 (k + 1) cap5) (k + 1) ((rangeL k).flatMap numC ++ [.int .i64 (k : Int)])) := hown'
               clear hgrow hown')
            | go_values | go_skip | go_guarded | go_step | go_upon)
          refine ⟨⟨k + 1, ao5, cap5, hlt, by go_num, rfl, ?_, HK5.out⟩, by simp [intOf]; omega⟩
          rw [rangeL_succ, List.flatMap_append]
          simpa [numC] using HW.out
        · have hke : k = M := by omega
          subst hke
          have hN : NumO wr w.heap.size wr.heap.size (.slice ao' k c') (rangeL k) := by
            have := RowO.top HO.out
            unfold NumO
            rw [rangeL_len]
            exact this
          have HN : Hid (NumO wr w.heap.size wr.heap.size (.slice ao' k c') (rangeL k)) := hN
          clear hN HO
          rename World => wb
          go_wp2
          go_loopw [1, 9] (fun sv i wr => ∃ (x s : Int) (l : List Int), -1 ≤ x ∧ x < k ∧ i = .int .i64 x ∧ sv = .int .i64 s ∧ 0 ≤ s ∧ s ≤ 2147483647 ∧ Hid (shufL x.toNat l s = (R, z) ∧ l.length = k) ∧ NumO wr w.heap.size wb.heap.size (.slice ao' k c') l ∧ Kept w wr) (fun _ i _ => (intOf i).toNat)
          case atStart => exact ⟨(k : Int) - 1, sd, rangeL k, by omega, by omega, rfl, rfl, by omega, by omega, (⟨by rw [show ((k : Int) - 1).toNat = k - 1 by omega]; exact HR.out, rangeL_len k⟩ : shufL ((k : Int) - 1).toNat (rangeL k) sd = (R, z) ∧ (rangeL k).length = k), HN.out, HK.out⟩
          case round =>
            obtain ⟨x, s, l, hx0, hx1, rfl, rfl, hs0, hs1, HS, ho, hkp⟩ := hrel
            have HKP : Hid (Kept w wr) := hkp
            have HL : Hid (l.length = k) := HS.out.2
            clear hkp
            by_cases hpos : 0 < x
            · obtain ⟨j, hj⟩ := Int.eq_ofNat_of_zero_le (show 0 ≤ x - 1 by omega)
              obtain rfl : x = ((j + 1 : Nat) : Int) := by omega
              have hstep := HS.out.1
              rw [Int.toNat_natCast, shufL] at hstep
              have hcb := coinC_bd s
              obtain ⟨q, hq⟩ := Int.eq_ofNat_of_zero_le (show 0 ≤ coinC s % (((j + 1 : Nat) : Int) + 1) from Int.emod_nonneg _ (by omega))
              have hq2 : coinC s % (((j + 1 : Nat) : Int) + 1) < ((j + 1 : Nat) : Int) + 1 := Int.emod_lt_of_pos _ (by omega)
              have hqj : q < j + 2 := by omega
              rw [hq, Int.toNat_natCast] at hstep
              have HST : Hid (shufL j (swapL l (j + 1) q) (coinN s) = (R, z)) := hstep
              have hqm : coinC s % ((j : Int) + 1 + 1) = (q : Int) := by rw [← hq, Int.natCast_succ]
              clear hstep hq hq2 HS
              obtain ⟨a, ha⟩ : ∃ p : Int, l[j + 1]? = some p := ⟨_, List.getElem?_eq_getElem (by have := HL.out; omega)⟩
              obtain ⟨b, hb⟩ : ∃ p : Int, l[q]? = some p := ⟨_, List.getElem?_eq_getElem (by have := HL.out; omega)⟩
              obtain ⟨g, cap, hf, hg0, hg1⟩ := num_form ho (by have := HL.out; omega)
              rw [HL.out] at hf
              cases hf
              have hset := swap_set ho HL.out.symm ha hb
              obtain ⟨f1, fz⟩ := ho.cells ha
              have f2 := (ho.cells hb).1
              have z1 := fz (j + 1)
              have z2 := fz q
              have f3 := ((ho.set HL.out.symm ha b).cells (i := q) (p := (l.set (j + 1) b).getD q 0) (by rw [List.getD_eq_getElem?_getD, List.getElem?_eq_getElem (by have := HL.out; simp; omega)]; rfl)).1
              have HSET : Hid _ := hset
              clear hset fz ho ha hb
              go_wp2_with (go_at_call 36; refine (scoin _ _ hs0 hs1).mono ?_; rintro e w1 ⟨rfl, hw1⟩; rw [hw1]; clear hw1 w1)
              have hcn := coinN_bd s
              exact ⟨⟨(j : Int), coinN s, swapL l (j + 1) q, by omega, by omega, by go_num, rfl, hcn.1, hcn.2, (⟨by rw [Int.toNat_natCast]; exact HST.out, (swapL_len _ _ _).trans HL.out⟩ : shufL (j : Int).toNat (swapL l (j + 1) q) (coinN s) = (R, z) ∧ (swapL l (j + 1) q).length = k), HSET.out, (HKP.out.setNew hg0 _).setNew hg0 _⟩, by simp [intOf]⟩
            · have hx : x.toNat = 0 := by omega
              have he := HS.out.1
              rw [hx, shufL] at he
              have HE : Hid ((l, s) = (R, z)) := he
              have hdx : decide (0 < x) = false := by simp; omega
              have HO : Hid _ := ho
              clear he ho HS hpos
              go_wp2
              go_returns
              have hrl := HE.out
              cases hrl
              refine ⟨_, retS HA.out, ?_, HKP.out⟩
              rw [HA.out]
              exact HO.out.low
    · rw [shufA_no (fun h => h2 h.2)]
      have d2 : decide (0 ≤ sd ∧ sd ≤ 2147483647) = false := decide_eq_false h2
      go_enter Try.func20, Try.ntmps20
      go_wp2_with (first | (go_at_call 26; refine (sIn _ _ _ _).mono ?_; rintro e w1 ⟨rfl, hw1⟩; rw [hw1, d1]; clear hw1 w1) | (go_at_call 30; refine (sseed _ _).mono ?_; rintro e w1 ⟨rfl, hw1⟩; rw [hw1, d2]; clear hw1 w1))
      go_returns
      exact ⟨_, rfl, num_nil _ _ _, But.refl _ _ _⟩
  · rw [shufA_no (fun h => h1 h.1)]
    have d1 : decide (0 ≤ m ∧ m ≤ 60) = false := decide_eq_false h1
    go_enter Try.func20, Try.ntmps20
    go_wp2_with (first | (go_at_call 26; refine (sIn _ _ _ _).mono ?_; rintro e w1 ⟨rfl, hw1⟩; rw [hw1, d1]; clear hw1 w1) | (go_at_call 30; refine (sseed _ _).mono ?_; rintro e w1 ⟨rfl, hw1⟩; rw [hw1]; clear hw1 w1))
    go_returns
    exact ⟨_, rfl, num_nil _ _ _, But.refl _ _ _⟩

end Go.Proofs.Ytpeiblodefaajaa
