/-
  PushLine of the program.
-/
import Derived.Test.YthpjjpgahmkpdaaPLineM10
import Derived.Test.YthpjjpgahmkpdaaRound10
import Derived.Test.YthpjjpgahmkpdaaBodies10
import Derived.Test.YthpjjpgahmkpdaaGoodI10
namespace Go.Proofs.Ythpjjpgahmkpdaa
open Go.ChangeShapes Go.WideShapes Go.ChangeAt Go.RowKit

set_option maxRecDepth 100000
set_option linter.unusedVariables false
set_option linter.unusedSimpArgs false

set_option maxHeartbeats 8000000 in
theorem ipushline (ps : List BodyD) (bo ro : Int) (v : Value) (w : World) (hv : BodyAt w v ps) (hn : ps.length ≤ 1048576) :
    Calls Try.prog 13 #[v, .int .i64 bo, .int .i64 ro] w (PushR (pushA ps bo ro) w) := by
  obtain ⟨ao, cap, hsl⟩ := row_nil hv
  subst hsl
  by_cases h : LineP ps
  · by_cases hb : 0 ≤ bo ∧ bo ≤ 100
    · have db : decide (0 ≤ bo ∧ bo ≤ 100) = true := decide_eq_true hb
      by_cases hr : 0 ≤ ro ∧ ro ≤ 50
      · have d1 : decide (ro < 0) = false := by simp; omega
        have d2 : decide (50 < ro) = false := by simp; omega
        obtain ⟨R, rfl⟩ : ∃ R : Nat, ro = (R : Int) := ⟨ro.toNat, by omega⟩
        have HA : Hid (pushA ps bo (R : Int) = roundsO ps bo R) := by
          show _ = _
          rw [pushA, if_pos ⟨h, hb, hr⟩]; rfl
        have hl20 := h.1
        go_enter Try.func13, Try.ntmps13
        repeat (first | (go_at_call 55; refine (lineOf ps _ _ hv hn).mono ?_; rintro e w1 hL; have HK1 : Hid (Kept w w1) := hL.2; obtain ⟨⟨v1, rfl, o1⟩, -⟩ := line_yes h hL; obtain ⟨ao1, cap1, hfm⟩ := o1.form; subst hfm; have HO1 : Hid (SolidO w1 w.heap.size w1.heap.size (.slice ao1 ps.length cap1) ps) := o1; clear o1; clear hL; dsimp only) | (go_at_call 56; refine (ibounce _ _).mono ?_; rw [db]; rintro e w9 ⟨rfl, hw9⟩; rw [hw9]; clear hw9; dsimp only) | go_values | go_skip | go_guarded | go_step | go_upon)
        have HL : Hid (LineP ps) := h
        have hw1 := HK1.out.size
        clear h
        go_loopw [31] (fun i wr => ∃ (k : Nat) (qs : List BodyD), k ≤ R ∧ i = .int .i64 (k : Int) ∧ roundsO ps bo k = some qs ∧ SolidO wr w.heap.size w1.heap.size (.slice ao1 ps.length cap1) qs ∧ But w.heap.size w1.heap.size w1 wr) (fun i _ => R - (intOf i).toNat)
        case atStart => exact ⟨0, ps, by omega, rfl, rfl, HO1.out, But.refl _ _ _⟩
        case round =>
          obtain ⟨k, qs, hk, rfl, hrk, ho, hkp⟩ := hrel
          obtain ⟨hway, hlen⟩ := roundsO_way HL.out.way hrk
          have HR : Hid (roundsO ps bo k = some qs) := hrk
          have HO : Hid (SolidO wr w.heap.size w1.heap.size (.slice ao1 ps.length cap1) qs) := ho
          have HK : Hid (But w.heap.size w1.heap.size w1 wr) := hkp
          have HW : Hid (Way qs) := hway
          have HQ : Hid (qs.length = ps.length) := hlen
          clear hrk ho hkp hway hlen HO1
          by_cases hlt : k < R
          · have hpr := pushRound qs bo w.heap.size w1.heap.size (.slice ao1 ps.length cap1) wr HO.out (by rw [HQ.out]; exact hl20) HW.out hb
            have HPR : Hid (Calls Try.prog 57 #[.slice ao1 ps.length cap1, .int .i64 bo] wr (RoundR qs bo w.heap.size w1.heap.size (.slice ao1 ps.length cap1) wr)) := hpr
            clear hpr
            repeat (first | go_values | go_skip | go_guarded | go_step | go_upon)
            go_at_call 57
            refine Calls.mono HPR.out ?_
            cases hro : roundO qs bo (qs.length - 1) with
            | none =>
              rintro e w2 hRR
              rw [roundR_none hro] at hRR
              obtain ⟨rfl, k2⟩ := hRR
              have HK2 : Hid (Kept w w2) := But.onto HK1.out (HK.out.trans k2) (Nat.le_refl _)
              have HN : Hid (pushA ps bo (R : Int) = none) := by
                show _ = _
                rw [HA.out]
                exact roundsO_none (k := k + 1) (by rw [roundsO_step HR.out]; exact hro) hlt
              clear k2 hro
              dsimp only
              repeat (first | go_values | go_skip | go_guarded | go_step | go_upon)
              refine bodyPost_ret (v := .tuple #[.slice none 0 0, .bool false]) (by simp [results, Try.results13, go_sem]) rfl ?_
              rw [HN.out]
              exact pushR_none rfl HK2.out
            | some rs =>
              rintro e w2 hRR
              rw [roundR_some hro] at hRR
              obtain ⟨⟨rfl, o2⟩, k2⟩ := hRR
              have HO2 : Hid (SolidO w2 w.heap.size w1.heap.size (.slice ao1 ps.length cap1) rs) := o2
              have HK2 : Hid (But w.heap.size w1.heap.size w1 w2) := HK.out.trans k2
              have HR2 : Hid (roundsO ps bo (k + 1) = some rs) := by
                show _ = _
                rw [roundsO_step HR.out]; exact hro
              clear k2 hro o2
              dsimp only
              repeat (first | go_values | go_skip | go_guarded | go_step | go_upon)
              exact ⟨⟨k + 1, rs, hlt, by go_num, HR2.out, HO2.out, HK2.out⟩, by simp [intOf]; omega⟩
          · have hke : k = R := by omega
            subst hke
            have HKw : Hid (Kept w wr) := But.onto HK1.out HK.out (Nat.le_refl _)
            have hwr := HKw.out.size
            have hbs := fun W (kk : Kept wr W) => bodiesOf qs (.slice ao1 ps.length cap1) W (HO.out.at.kept kk) (by rw [HQ.out]; exact hl20)
            have HBS : Hid _ := hbs
            clear hbs
            repeat (first | go_values | go_skip | go_guarded | go_step | go_upon)
            go_at_call 58
            refine Calls.mono (HBS.out _ (But.refl _ _ _)) ?_
            rintro e w2 ⟨v2, rfl, o2, k2⟩
            obtain ⟨ao2, cap2, hf2⟩ := o2.form
            subst hf2
            have HO2 : Hid (BodyO w2 w.heap.size w2.heap.size (.slice ao2 qs.length cap2) qs) := o2.mono hwr (Nat.le_refl _)
            have HK2 : Hid (Kept w w2) := HKw.out.trans k2
            clear o2 k2
            dsimp only
            repeat (first | go_values | go_skip | go_guarded | go_step | go_upon)
            refine bodyPost_ret (v := .tuple #[.slice ao2 qs.length cap2, .bool true]) (by simp [results, Try.results13, go_sem]) rfl ?_
            rw [HA.out, HR.out]
            exact ⟨_, rfl, HO2.out, HK2.out⟩
      · have hr' : decide (ro < 0) = true ∨ decide (ro < 0) = false ∧ decide (50 < ro) = true := by
          by_cases h1 : ro < 0
          · exact Or.inl (decide_eq_true h1)
          · exact Or.inr ⟨decide_eq_false h1, decide_eq_true (by omega)⟩
        have HA : Hid (pushA ps bo ro = none) := by
          show _ = _
          rw [pushA, if_neg (fun hh => hr hh.2.2)]
        clear hr
        rcases hr' with d1 | ⟨d1, d2⟩
        all_goals
          go_enter Try.func13, Try.ntmps13
          repeat (first | (go_at_call 55; refine (lineOf ps _ _ hv hn).mono ?_; rintro e w1 hL; have HK1 : Hid (Kept w w1) := hL.2; obtain ⟨⟨v1, rfl, o1⟩, -⟩ := line_yes h hL; obtain ⟨ao1, cap1, hfm⟩ := o1.form; subst hfm; have HO1 : Hid (SolidO w1 w.heap.size w1.heap.size (.slice ao1 ps.length cap1) ps) := o1; clear o1; clear hL; dsimp only) | (go_at_call 56; refine (ibounce _ _).mono ?_; rw [db]; rintro e w9 ⟨rfl, hw9⟩; rw [hw9]; clear hw9; dsimp only) | go_values | go_skip | go_guarded | go_step | go_upon)
          repeat (first | go_values | go_skip | go_guarded | go_step | go_upon)
          refine bodyPost_ret (v := .tuple #[.slice none 0 0, .bool false]) (by simp [results, Try.results13, go_sem]) rfl ?_
          rw [HA.out]
          exact pushR_none rfl HK1.out

    · have db : decide (0 ≤ bo ∧ bo ≤ 100) = false := decide_eq_false hb
      have HA : Hid (pushA ps bo ro = none) := by
        show _ = _
        rw [pushA, if_neg (fun hh => hb hh.2.1)]
      go_enter Try.func13, Try.ntmps13
      repeat (first | (go_at_call 55; refine (lineOf ps _ _ hv hn).mono ?_; rintro e w1 hL; have HK1 : Hid (Kept w w1) := hL.2; obtain ⟨⟨v1, rfl, o1⟩, -⟩ := line_yes h hL; obtain ⟨ao1, cap1, hfm⟩ := o1.form; subst hfm; have HO1 : Hid (SolidO w1 w.heap.size w1.heap.size (.slice ao1 ps.length cap1) ps) := o1; clear o1; clear hL; dsimp only) | (go_at_call 56; refine (ibounce _ _).mono ?_; rw [db]; rintro e w9 ⟨rfl, hw9⟩; rw [hw9]; clear hw9; dsimp only) | go_values | go_skip | go_guarded | go_step | go_upon)
      repeat (first | go_values | go_skip | go_guarded | go_step | go_upon)
      refine bodyPost_ret (v := .tuple #[.slice none 0 0, .bool false]) (by simp [results, Try.results13, go_sem]) rfl ?_
      rw [HA.out]
      exact pushR_none rfl HK1.out

  · have HA : Hid (pushA ps bo ro = none) := by
      show _ = _
      rw [pushA, if_neg (fun hh => h hh.1)]
    go_enter Try.func13, Try.ntmps13
    repeat (first | (go_at_call 55; refine (lineOf ps _ _ hv hn).mono ?_; rintro e w1 hL; have HK1 : Hid (Kept w w1) := hL.2; obtain ⟨rfl, -⟩ := line_no h hL; clear hL; dsimp only) | go_values | go_skip | go_guarded | go_step | go_upon)
    repeat (first | go_values | go_skip | go_guarded | go_step | go_upon)
    refine bodyPost_ret (v := .tuple #[.slice none 0 0, .bool false]) (by simp [results, Try.results13, go_sem]) rfl ?_
    rw [HA.out]
    exact pushR_none rfl HK1.out


end Go.Proofs.Ythpjjpgahmkpdaa
