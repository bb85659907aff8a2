/-
  MarksCrossed of the specification.
-/
import Derived.Test.YtpnplfngglfpoaaCrossP11
import Derived.Test.YtpnplfngglfpoaaGoodS11
namespace Go.Proofs.Ytpnplfngglfpoaa
open Go.ChangeShapes Go.WideShapes Go.ChangeAt Go.RowKit

set_option maxRecDepth 100000
set_option linter.unusedVariables false

set_option maxHeartbeats 8000000 in
theorem scross (c : ClipD) (fr st : Int) (v : Value) (w : World) (hv : ClipAt w v c) (hl : clipCost c ≤ 1048576) :
    Calls Try.prog 40 #[v, .int .i64 fr, .int .i64 st] w fun e w' => ∃ v', e = .returned (.tuple #[v', .int .i64 (crossA c fr st).2.1, .bool (crossA c fr st).2.2]) ∧ TxtO w' w.heap.size w'.heap.size v' (crossA c fr st).1 ∧ Kept w w' := by
  obtain ⟨a1, p1, a2, p2, hfm⟩ := hv.form
  subst hfm
  have HG0 : Hid (∀ W, Kept w W → Calls Try.prog 17 #[.agg #[.int .i64 c.1, .slice a1 c.2.1.length p1, .slice a2 c.2.2.length p2]] W fun e w' => e = .returned (.bool (decide (ClipP c))) ∧ Kept W w') := fun W k => sgoodclip c _ W (hv.kept k) hl
  obtain ⟨hr, hr2⟩ := hv.row
  have NO : Hid (¬ CrossP c fr st → crossA c fr st = ([], 0, false)) := fun h => cross_no h
  have YES : Hid (CrossP c fr st → crossA c fr st = (crossL c.2.2 c.1 fr st.toNat, stepF c.1 fr st.toNat, true)) := fun h => cross_yes h
  generalize crossA c fr st = R at *
  obtain ⟨x, ts, ms⟩ := c
  dsimp only at *
  clear hv
  rcases (Classical.em (ClipP (x, ts, ms))).symm with h1 | h1
  · have HG : Hid (∀ W, Kept w W → Calls Try.prog 17 #[.agg #[.int .i64 x, .slice a1 ts.length p1, .slice a2 ms.length p2]] W fun e w' => e = .returned (.bool false) ∧ Kept W w') := by
      have := HG0
      rw [decide_eq_false h1] at this
      exact this
    have hR := NO.out (fun h => h1 h.1)
    subst hR
    clear h1 NO YES HG0
    go_enter Try.func40, Try.ntmps40
    repeat (first | (go_at_call 17; refine (HG.out _ ((But.refl _ _ _).alloc _)).mono ?_; rintro e w1 ⟨rfl, k1⟩; have f0 := Kept.cell k1 ((Loc.new w [.int .i64 x, .slice a1 ts.length p1, .slice a2 ms.length p2] 44).cell 0 rfl); have f2 := Kept.cell k1 ((Loc.new w [.int .i64 x, .slice a1 ts.length p1, .slice a2 ms.length p2] 44).cell 2 rfl); dsimp only) | go_values | go_skip | go_guarded | go_step | go_upon)
    go_ret3
    exact ⟨_, rfl, txt_nil _ _ _, ((But.refl _ _ _).alloc _).trans k1⟩
  have HG : Hid (∀ W, Kept w W → Calls Try.prog 17 #[.agg #[.int .i64 x, .slice a1 ts.length p1, .slice a2 ms.length p2]] W fun e w' => e = .returned (.bool true) ∧ Kept W w') := by
    have := HG0
    rw [decide_eq_true h1] at this
    exact this
  have hx1 : 1 ≤ x := h1.1.1
  have hx2 : x ≤ 60 := h1.1.2
  have hms : ms.length ≤ 20 := h1.2.2.1
  have HC : Hid (ClipP (x, ts, ms)) := h1
  clear HG0 h1
  have ex : IntKind.i64.wrap (x - 1) = x - 1 := IntWalk.i64_in _ (by omega)
  rcases (Decidable.em (0 ≤ fr ∧ fr ≤ x - 1)).symm with h2 | h2
  · have dm : decide (0 ≤ fr ∧ fr ≤ x - 1) = false := decide_eq_false h2
    have hR := NO.out (fun h => h2 (by have := h.2.1; dsimp only at this; omega))
    subst hR
    go_enter Try.func40, Try.ntmps40
    repeat (first | (go_at_call 17; refine (HG.out _ ((But.refl _ _ _).alloc _)).mono ?_; rintro e w1 ⟨rfl, k1⟩; have f0 := Kept.cell k1 ((Loc.new w [.int .i64 x, .slice a1 ts.length p1, .slice a2 ms.length p2] 44).cell 0 rfl); have f2 := Kept.cell k1 ((Loc.new w [.int .i64 x, .slice a1 ts.length p1, .slice a2 ms.length p2] 44).cell 2 rfl); dsimp only) | (go_at_call 52; refine (sIn _ _ _ _).mono ?_; rw [dm]; rintro e w3 ⟨rfl, hw3⟩; rw [hw3]; clear hw3; dsimp only) | go_values | go_skip | go_guarded | go_step | go_upon)
    go_ret3
    exact ⟨_, rfl, txt_nil _ _ _, ((But.refl _ _ _).alloc _).trans k1⟩
  have dm : decide (0 ≤ fr ∧ fr ≤ x - 1) = true := decide_eq_true h2
  rcases (Decidable.em (0 ≤ st ∧ st ≤ 600)).symm with h3 | h3
  · have dn : decide (0 ≤ st ∧ st ≤ 600) = false := decide_eq_false h3
    have hR := NO.out (fun h => h3 h.2.2)
    subst hR
    go_enter Try.func40, Try.ntmps40
    repeat (first | (go_at_call 17; refine (HG.out _ ((But.refl _ _ _).alloc _)).mono ?_; rintro e w1 ⟨rfl, k1⟩; have f0 := Kept.cell k1 ((Loc.new w [.int .i64 x, .slice a1 ts.length p1, .slice a2 ms.length p2] 44).cell 0 rfl); have f2 := Kept.cell k1 ((Loc.new w [.int .i64 x, .slice a1 ts.length p1, .slice a2 ms.length p2] 44).cell 2 rfl); dsimp only) | (go_at_call 52; refine (sIn _ _ _ _).mono ?_; rw [dm]; rintro e w3 ⟨rfl, hw3⟩; rw [hw3]; clear hw3; dsimp only) | (go_at_call 52; refine (sIn _ _ _ _).mono ?_; rw [dn]; rintro e w3 ⟨rfl, hw3⟩; rw [hw3]; clear hw3; dsimp only) | go_values | go_skip | go_guarded | go_step | go_upon)
    go_ret3
    exact ⟨_, rfl, txt_nil _ _ _, ((But.refl _ _ _).alloc _).trans k1⟩
  have dn : decide (0 ≤ st ∧ st ≤ 600) = true := decide_eq_true h3
  have hR := YES.out ⟨HC.out, by dsimp only; omega, by omega⟩
  subst hR
  dsimp only
  obtain ⟨N, hN⟩ : ∃ N : Nat, st = (N : Int) := ⟨st.toNat, by omega⟩
  have hNN : st.toNat = N := by omega
  rw [hNN]
  have hN6 : N ≤ 600 := by omega
  subst hN
  have hN : (N : Int) = (N : Int) := rfl
  have HMA : Hid (MarkAt w (.slice a2 ms.length p2) ms) := hr2
  have HSF : Hid (∀ i, 0 ≤ stepF x fr i ∧ stepF x fr i < x) := stepF_in (by omega) (by omega)
  obtain ⟨i0, hi0, hz0, hz1, hz2⟩ := info_parts infoTxt
  clear hr hr2 NO YES
  go_enter Try.func40, Try.ntmps40
  repeat (first | (go_at_call 17; refine (HG.out _ ((But.refl _ _ _).alloc _)).mono ?_; rintro e w1 ⟨rfl, k1⟩; have f0 := Kept.cell k1 ((Loc.new w [.int .i64 x, .slice a1 ts.length p1, .slice a2 ms.length p2] 44).cell 0 rfl); have f2 := Kept.cell k1 ((Loc.new w [.int .i64 x, .slice a1 ts.length p1, .slice a2 ms.length p2] 44).cell 2 rfl); dsimp only) | (go_at_call 52; refine (sIn _ _ _ _).mono ?_; rw [dm]; rintro e w3 ⟨rfl, hw3⟩; rw [hw3]; clear hw3; dsimp only) | (go_at_call 52; refine (sIn _ _ _ _).mono ?_; rw [dn]; rintro e w3 ⟨rfl, hw3⟩; rw [hw3]; clear hw3; dsimp only) | go_values | go_skip | go_guarded | go_step | go_upon)
  have K1 : Hid (Kept w w1) := ((But.refl _ _ _).alloc _).trans k1
  have hw1 := K1.out.size
  clear k1 HG
  go_loopw [1, 2, 9] (fun a b s wr => ∃ (i M : Nat) (ao' : Option Addr) (c' : Nat), i ≤ N ∧ a = .int .i64 (stepF x fr i) ∧ b = .int .i64 ((N : Int) - i) ∧ s = .slice ao' M c' ∧ wr.ownsRow w1.heap.size 9 1 (.slice ao' M c') M ((crossL ms x fr i).flatMap txtC) ∧ Hid ((crossL ms x fr i).length = M) ∧ Kept w1 wr) (fun _ b _ _ => (intOf b).toNat)
  case atStart => exact ⟨0, 0, none, 0, by omega, rfl, by rw [hN]; simp, rfl, World.ownsRow_nil _ _ _ _, (rfl : (crossL ms x fr 0).length = 0), But.refl _ _ _⟩
  case round =>
    obtain ⟨i, M, ao', c', hi, rfl, rfl, rfl, hown, HM, hkp⟩ := hrel
    have hwz := hkp.size
    have HO : Hid (wr.ownsRow w1.heap.size 9 1 (.slice ao' M c') M ((crossL ms x fr i).flatMap txtC)) := hown
    by_cases hlt : i < N
    · have g0 := Kept.cell hkp f0
      have g2 := Kept.cell hkp f2
      have hsf := HSF.out i
      have HF : Hid (stepF x fr (i + 1) = (stepF x fr i + 1) % x) := rfl
      have hcl := cross_len hms x fr i
      rw [HM.out] at hcl
      have HFI := HSF.out (i + 1)
      rw [HF.out] at HFI
      generalize hP : stepF x fr i = P at *
      have HP : Hid (stepF x fr i = P) := hP
      have ep : IntKind.i64.wrap (P + 1) = P + 1 := IntWalk.i64_in _ (by omega)
      have er : (P + 1).tmod x = (P + 1) % x := Int.tmod_eq_emod_of_nonneg (by omega)
      have hx0 : (x == 0) = false := beq_eq_false_iff_ne.2 (by omega)
      have HK : Hid (Kept w1 wr) := hkp
      have dlt : decide (0 < (N : Int) - (i : Int)) = true := by simp; omega
      clear hown hP hkp
      repeat (first | go_values | go_skip | go_guarded | go_step | go_upon)
      try rw [er]
      generalize hQ : (P + 1) % x = Q at *
      go_loopw [9, 40] (fun s b wr2 => ∃ (j M2 : Nat) (ao' : Option Addr) (c' : Nat), j ≤ ms.length ∧ s = .slice ao' M2 c' ∧ b = .int .i64 j ∧ wr2.ownsRow w1.heap.size 9 1 (.slice ao' M2 c') M2 ((crossL ms x fr i ++ hits (ms.take j) Q).flatMap txtC) ∧ Hid ((crossL ms x fr i ++ hits (ms.take j) Q).length = M2) ∧ M2 ≤ 20 * i + j ∧ Kept w1 wr2) (fun _ b _ => ms.length - (intOf b).toNat)
      case atStart => exact ⟨0, M, ao', c', by omega, rfl, rfl, by simpa [hits] using HO.out, (by have := HM.out; simpa [hits] using this : (crossL ms x fr i ++ hits (ms.take 0) Q).length = M), by omega, HK.out⟩
      case round =>
        rename World => wr2
        obtain ⟨j, M2, ao5, cap5, hj, rfl, rfl, hown2, HM2, hM2, hkp2⟩ := hrel
        have hwz2 := hkp2.size
        by_cases hlt2 : j < ms.length
        · obtain ⟨d, hd⟩ : ∃ p, ms[j]? = some p := ⟨_, List.getElem?_eq_getElem hlt2⟩
          obtain ⟨bb, o, cap', e, c0, c1⟩ := mark_get (HMA.out.kept (K1.out.trans hkp2)) hd
          cases e
          obtain ⟨g, gn⟩ := d
          dsimp only at c0 c1
          have hgw : bb < wr2.heap.size := World.block_lt_of_cell? _ _ c0
          have HK2 : Hid (Kept w1 wr2) := hkp2
          have HO2 : Hid (wr2.ownsRow w1.heap.size 9 1 (.slice ao5 M2 cap5) M2 ((crossL ms x fr i ++ hits (ms.take j) Q).flatMap txtC)) := hown2
          clear hown2 hkp2
          cases hq : (g == Q) with
          | true =>
            have eg : g = Q := beq_iff_eq.1 hq
            subst eg
            have HH : Hid (hits (ms.take (j + 1)) g = hits (ms.take j) g ++ [gn]) := hits_yes hd
            have LN0 : Loc ((wr2.alloc (.cells #[.int .i64 g, .string gn] 98)).alloc (.cells #[.string gn] 9)) (wr2.heap.size + 1) [.string gn] := by
              have := Loc.new (wr2.alloc (.cells #[.int .i64 g, .string gn] 98)) [.string gn] 9
              simpa only [World.size_alloc] using this
            have LN : Hid (Loc ((wr2.alloc (.cells #[.int .i64 g, .string gn] 98)).alloc (.cells #[.string gn] 9)) (wr2.heap.size + 1) [.string gn]) := LN0
            clear hd LN0
            repeat (first
              | (at_builtin
                 refine wpList_append_own _ rfl _ _ 70 rfl w1.heap.size 9 i0 (.string ByteArray.empty) 1 16 Try.underlying70 hi0 hz0 hz1 hz2 rfl (by decide) _ _ _ rfl (own_kept HO2.out (((But.refl _ _ _).alloc _).alloc _)) ⟨wr2.heap.size + 1, 0, none⟩ 1 1 [.string gn] rfl rfl (news1 LN.out) (by simp [Value.oneCell']) (by unfold maxLen; omega) (by omega) (by simp; omega) ?_
                 intro v' w9 hown' hgrow _
                 obtain ⟨ao7, cap7, hf7, _⟩ := own_form hown'
                 subst hf7
                 have HK7 : Hid (Kept w1 w9) := ((HK2.out.alloc _).alloc _).grown hgrow (by intro x hx; have := own_lt HO2.out hx; omega)
                 have HW : Hid (w9.ownsRow w1.heap.size 9 1 (.slice ao7 (M2 + 1) cap7) (M2 + 1) ((crossL ms x fr i ++ hits (ms.take j) g).flatMap txtC ++ [.string gn])) := hown'
                 clear hgrow hown')
              | go_values | go_skip | go_guarded | go_step | go_upon)
            refine ⟨⟨j + 1, M2 + 1, ao7, cap7, hlt2, rfl, by go_num, ?_, (by rw [HH.out, ← List.append_assoc, List.length_append, HM2.out]; rfl : (crossL ms x fr i ++ hits (ms.take (j + 1)) g).length = M2 + 1), by omega, HK7.out⟩, by simp [intOf]; omega⟩
            rw [HH.out, ← List.append_assoc, List.flatMap_append]
            simpa [txtC] using HW.out
          | false =>
            have HH : Hid (hits (ms.take (j + 1)) Q = hits (ms.take j) Q) := hits_no hd hq
            clear hd
            repeat (first | go_values | go_skip | go_guarded | go_step | go_upon)
            exact ⟨⟨j + 1, M2, ao5, cap5, hlt2, rfl, by go_num, by rw [HH.out]; exact own_kept HO2.out ((But.refl _ _ _).alloc _), (by rw [HH.out]; exact HM2.out : (crossL ms x fr i ++ hits (ms.take (j + 1)) Q).length = M2), by omega, HK2.out.alloc _⟩, by simp [intOf]; omega⟩
        · have hje : j = ms.length := by omega
          subst hje
          rw [List.take_length] at hown2 HM2
          have HC2 : Hid (crossL ms x fr (i + 1) = crossL ms x fr i ++ hits ms Q) := (show crossL ms x fr i ++ hits ms (stepF x fr (i + 1)) = _ by rw [HF.out])
          repeat (first | go_values | go_skip | go_guarded | go_step | go_upon)
          refine ⟨⟨i + 1, M2, ao5, cap5, by omega, by rw [HF.out], by go_num, rfl, ?_, ?_, hkp2⟩, by simp [intOf]; omega⟩
          · rw [HC2.out]; exact hown2
          · exact (by rw [HC2.out]; exact HM2.out : (crossL ms x fr (i + 1)).length = M2)
    · have hie : i = N := by omega
      subst hie
      have dlt : decide (0 < (i : Int) - (i : Int)) = false := by simp
      repeat (first | go_values | go_skip | go_guarded | go_step | go_upon)
      go_ret3
      refine ⟨_, rfl, ?_, K1.out.trans hkp⟩
      have := RowO.mono (RowO.top HO.out) hw1 (Nat.le_refl _)
      unfold TxtO
      rw [HM.out]
      exact this

end Go.Proofs.Ytpnplfngglfpoaa
