/-
  What the specification of GainsAt answers.
-/
import Derived.Test.YtapfafibhjpkdaaGains15
namespace Go.Proofs.Ytapfafibhjpkdaa
open Go.ChangeShapes Go.WideShapes Go.ChangeAt Go.RowKit

set_option maxRecDepth 100000
set_option linter.unusedVariables false
open Plain
set_option maxHeartbeats 4000000 in
theorem sgains (x y far : Int) (w : World) (hx : -1099511627776 ≤ x ∧ x ≤ 1099511627776) (hy : -1099511627776 ≤ y ∧ y ≤ 1099511627776) (hf : 65536 ≤ far ∧ far ≤ 1099511627776) :
    Calls Try.prog 27 #[.int .i64 x, .int .i64 y, .int .i64 far] w fun e w' => GainE x y far e ∧ Grown w w' := by
  have d3 : decide (65536 ≤ far ∧ far ≤ 1099511627776) = true := by simp; omega
  have d4 : decide (far < 65536) = false := by simp; omega
  have d5 : decide (1099511627776 < far) = false := by simp; omega
  have HX : Hid (-1099511627776 ≤ x ∧ x ≤ 1099511627776) := hx
  have HY : Hid (-1099511627776 ≤ y ∧ y ≤ 1099511627776) := hy
  clear hx hy hf
  go_enter Try.func27, Try.ntmps27
  repeat (first
    | (go_at_call 61; refine (gs_yes x _ HX.out.1 HX.out.2).mono ?_; rintro e w' ⟨rfl, rfl⟩; dsimp only)
    | (go_at_call 61; refine (gs_yes y _ HY.out.1 HY.out.2).mono ?_; rintro e w' ⟨rfl, rfl⟩; dsimp only)
    | (go_at_call 40; refine (sIn _ _ _ _).mono ?_; rintro e w' ⟨rfl, rfl⟩; rw [d3]; dsimp only)
    | go_values | go_skip | go_guarded | go_step | go_upon)
  go_at_call 62
  refine (slen_yes _ _ _ HX.out.1 HX.out.2 HY.out.1 HY.out.2).mono ?_
  rintro e w1 ⟨⟨d, rfl, hd⟩, hg1⟩
  dsimp only
  have HDR : Hid (IsRoot (aabs x * aabs x + aabs y * aabs y) d) := hd
  have GA : Hid (Grown _ w1) := hg1
  obtain ⟨b0, b1⟩ := isRoot_bd hd
  obtain ⟨R, hR⟩ : ∃ R, rawM d x = R := ⟨_, rfl⟩
  have hRb := raw_bd d x
  rw [hR] at hRb
  have hRs : 0 < d → divM x d = R := fun h => by rw [← hR, rawM, if_pos h]
  have hRz : ¬ 0 < d → R = 0 := fun h => by rw [← hR, rawM, if_neg h]
  have HS : Hid (sideM d x = if 65536 < R then 65536 else if R < -65536 then -65536 else R) := by show _ = _; unfold sideM; rw [hR]
  obtain ⟨Q, hQ⟩ : ∃ Q, divM d far = Q := ⟨_, rfl⟩
  have hdb := div_bds d far
  rw [hQ] at hdb
  have HQ : Hid (divM d far = Q) := hQ
  have HG : Hid (gainM d far = if d < far then 65536 - Q else 0) := by show _ = _; unfold gainM; rw [hQ]
  clear hd hg1 hR hQ
  by_cases c1 : d < far
  · have e0 : decide (d < far) = true := by simp; omega
    have e0' : decide (far ≤ d) = false := by simp; omega
    by_cases c2 : 0 < d
    · have HRS : Hid (divM x d = R) := hRs c2
      have e1 : decide (0 < d) = true := decide_eq_true c2
      clear hRs hRz
      by_cases c3 : 65536 < R
      · have e2 : decide (65536 < R) = true := decide_eq_true c3
        have s1 : Hid (sideM d x = 65536) := by show _ = _; rw [HS.out]; first | (rw [if_pos (by omega)]; done) | (rw [if_neg (by omega), if_pos (by omega)]; done) | (rw [if_neg (by omega), if_neg (by omega)]; done)
        have g1 : Hid (gainM d far = 65536 - Q) := by show _ = _; rw [HG.out]; first | (rw [if_pos (by omega)]; done) | (rw [if_neg (by omega)]; done)
        clear HS HG
        repeat (first
          | (go_at_call 63; refine (sdiv_any _ _ _).mono ?_; rintro e w2 ⟨rfl, hg2⟩; replace GA := hgt GA hg2; clear hg2; rw [HQ.out]; dsimp only)
          | (go_at_call 63; refine (sdiv_any _ _ _).mono ?_; rintro e w3 ⟨rfl, hg3⟩; replace GA := hgt GA hg3; clear hg3; rw [HRS.out]; dsimp only)
          | (go_at_call 64; refine (sdown _ 2 _ (by omega) (by omega) (by omega) (by omega)).mono ?_; rintro e w' ⟨rfl, rfl⟩; dsimp only)
          | (go_at_call 47; refine (smul_any _ _ _).mono ?_; rintro e w4 ⟨rfl, hg4⟩; replace GA := hgt GA hg4; clear hg4; dsimp only)
          | go_values | go_skip | go_guarded | go_step | go_upon)
        go_returns
        refine ⟨⟨d, HDR.out, ?_⟩, ?_⟩
        · refine ret_three ?_ ?_ <;> rw [g1.out, s1.out] <;> first | rfl | (rw [show (if -65536 < R then R else -65536) = R by split <;> omega])
        · exact GA.out
      · have e2 : decide (65536 < R) = false := decide_eq_false c3
        by_cases c4 : R < -65536
        · have e3 : decide (R < -65536) = true := decide_eq_true c4
          have s1 : Hid (sideM d x = (-65536)) := by show _ = _; rw [HS.out]; first | (rw [if_pos (by omega)]; done) | (rw [if_neg (by omega), if_pos (by omega)]; done) | (rw [if_neg (by omega), if_neg (by omega)]; done)
          have g1 : Hid (gainM d far = 65536 - Q) := by show _ = _; rw [HG.out]; first | (rw [if_pos (by omega)]; done) | (rw [if_neg (by omega)]; done)
          clear HS HG
          repeat (first
            | (go_at_call 63; refine (sdiv_any _ _ _).mono ?_; rintro e w2 ⟨rfl, hg2⟩; replace GA := hgt GA hg2; clear hg2; rw [HQ.out]; dsimp only)
            | (go_at_call 63; refine (sdiv_any _ _ _).mono ?_; rintro e w3 ⟨rfl, hg3⟩; replace GA := hgt GA hg3; clear hg3; rw [HRS.out]; dsimp only)
            | (go_at_call 64; refine (sdown _ 2 _ (by omega) (by omega) (by omega) (by omega)).mono ?_; rintro e w' ⟨rfl, rfl⟩; dsimp only)
            | (go_at_call 47; refine (smul_any _ _ _).mono ?_; rintro e w4 ⟨rfl, hg4⟩; replace GA := hgt GA hg4; clear hg4; dsimp only)
            | go_values | go_skip | go_guarded | go_step | go_upon)
          go_returns
          refine ⟨⟨d, HDR.out, ?_⟩, ?_⟩
          · refine ret_three ?_ ?_ <;> rw [g1.out, s1.out] <;> first | rfl | (rw [show (if -65536 < R then R else -65536) = R by split <;> omega])
          · exact GA.out
        · have e3 : decide (R < -65536) = false := decide_eq_false c4
          have s1 : Hid (sideM d x = R) := by show _ = _; rw [HS.out]; first | (rw [if_pos (by omega)]; done) | (rw [if_neg (by omega), if_pos (by omega)]; done) | (rw [if_neg (by omega), if_neg (by omega)]; done)
          have g1 : Hid (gainM d far = 65536 - Q) := by show _ = _; rw [HG.out]; first | (rw [if_pos (by omega)]; done) | (rw [if_neg (by omega)]; done)
          clear HS HG
          repeat (first
            | (go_at_call 63; refine (sdiv_any _ _ _).mono ?_; rintro e w2 ⟨rfl, hg2⟩; replace GA := hgt GA hg2; clear hg2; rw [HQ.out]; dsimp only)
            | (go_at_call 63; refine (sdiv_any _ _ _).mono ?_; rintro e w3 ⟨rfl, hg3⟩; replace GA := hgt GA hg3; clear hg3; rw [HRS.out]; dsimp only)
            | (go_at_call 64; refine (sdown _ 2 _ (by omega) (by omega) (by omega) (by omega)).mono ?_; rintro e w' ⟨rfl, rfl⟩; dsimp only)
            | (go_at_call 47; refine (smul_any _ _ _).mono ?_; rintro e w4 ⟨rfl, hg4⟩; replace GA := hgt GA hg4; clear hg4; dsimp only)
            | go_values | go_skip | go_guarded | go_step | go_upon)
          go_returns
          refine ⟨⟨d, HDR.out, ?_⟩, ?_⟩
          · refine ret_three ?_ ?_ <;> rw [g1.out, s1.out] <;> first | rfl | (rw [show (if -65536 < R then R else -65536) = R by split <;> omega])
          · exact GA.out
    · have e1 : decide (0 < d) = false := decide_eq_false c2
      have hR0 := hRz c2
      subst hR0
      clear hRs hRz
      have s1 : Hid (sideM d x = 0) := by show _ = _; rw [HS.out]; first | (rw [if_pos (by omega)]; done) | (rw [if_neg (by omega), if_pos (by omega)]; done) | (rw [if_neg (by omega), if_neg (by omega)]; done)
      have g1 : Hid (gainM d far = 65536 - Q) := by show _ = _; rw [HG.out]; first | (rw [if_pos (by omega)]; done) | (rw [if_neg (by omega)]; done)
      clear HS HG
      repeat (first
        | (go_at_call 63; refine (sdiv_any _ _ _).mono ?_; rintro e w2 ⟨rfl, hg2⟩; replace GA := hgt GA hg2; clear hg2; rw [HQ.out]; dsimp only)
        | (go_at_call 64; refine (sdown _ 2 _ (by omega) (by omega) (by omega) (by omega)).mono ?_; rintro e w' ⟨rfl, rfl⟩; dsimp only)
        | (go_at_call 47; refine (smul_any _ _ _).mono ?_; rintro e w4 ⟨rfl, hg4⟩; replace GA := hgt GA hg4; clear hg4; dsimp only)
        | go_values | go_skip | go_guarded | go_step | go_upon)
      go_returns
      refine ⟨⟨d, HDR.out, ?_⟩, ?_⟩
      · refine ret_three ?_ ?_ <;> rw [g1.out, s1.out] <;> first | rfl | (rw [show (if -65536 < R then R else -65536) = R by split <;> omega])
      · exact GA.out
  · have e0 : decide (d < far) = false := by simp; omega
    have e0' : decide (far ≤ d) = true := by simp; omega
    by_cases c2 : 0 < d
    · have HRS : Hid (divM x d = R) := hRs c2
      have e1 : decide (0 < d) = true := decide_eq_true c2
      clear hRs hRz
      by_cases c3 : 65536 < R
      · have e2 : decide (65536 < R) = true := decide_eq_true c3
        have s1 : Hid (sideM d x = 65536) := by show _ = _; rw [HS.out]; first | (rw [if_pos (by omega)]; done) | (rw [if_neg (by omega), if_pos (by omega)]; done) | (rw [if_neg (by omega), if_neg (by omega)]; done)
        have g1 : Hid (gainM d far = 0) := by show _ = _; rw [HG.out]; first | (rw [if_pos (by omega)]; done) | (rw [if_neg (by omega)]; done)
        clear HS HG
        repeat (first
          | (go_at_call 63; refine (sdiv_any _ _ _).mono ?_; rintro e w3 ⟨rfl, hg3⟩; replace GA := hgt GA hg3; clear hg3; rw [HRS.out]; dsimp only)
          | (go_at_call 64; refine (sdown _ 2 _ (by omega) (by omega) (by omega) (by omega)).mono ?_; rintro e w' ⟨rfl, rfl⟩; dsimp only)
          | (go_at_call 47; refine (smul_any _ _ _).mono ?_; rintro e w4 ⟨rfl, hg4⟩; replace GA := hgt GA hg4; clear hg4; dsimp only)
          | go_values | go_skip | go_guarded | go_step | go_upon)
        go_returns
        refine ⟨⟨d, HDR.out, ?_⟩, ?_⟩
        · refine ret_three ?_ ?_ <;> rw [g1.out, s1.out] <;> first | rfl | (rw [show (if -65536 < R then R else -65536) = R by split <;> omega])
        · exact GA.out
      · have e2 : decide (65536 < R) = false := decide_eq_false c3
        by_cases c4 : R < -65536
        · have e3 : decide (R < -65536) = true := decide_eq_true c4
          have s1 : Hid (sideM d x = (-65536)) := by show _ = _; rw [HS.out]; first | (rw [if_pos (by omega)]; done) | (rw [if_neg (by omega), if_pos (by omega)]; done) | (rw [if_neg (by omega), if_neg (by omega)]; done)
          have g1 : Hid (gainM d far = 0) := by show _ = _; rw [HG.out]; first | (rw [if_pos (by omega)]; done) | (rw [if_neg (by omega)]; done)
          clear HS HG
          repeat (first
            | (go_at_call 63; refine (sdiv_any _ _ _).mono ?_; rintro e w3 ⟨rfl, hg3⟩; replace GA := hgt GA hg3; clear hg3; rw [HRS.out]; dsimp only)
            | (go_at_call 64; refine (sdown _ 2 _ (by omega) (by omega) (by omega) (by omega)).mono ?_; rintro e w' ⟨rfl, rfl⟩; dsimp only)
            | (go_at_call 47; refine (smul_any _ _ _).mono ?_; rintro e w4 ⟨rfl, hg4⟩; replace GA := hgt GA hg4; clear hg4; dsimp only)
            | go_values | go_skip | go_guarded | go_step | go_upon)
          go_returns
          refine ⟨⟨d, HDR.out, ?_⟩, ?_⟩
          · refine ret_three ?_ ?_ <;> rw [g1.out, s1.out] <;> first | rfl | (rw [show (if -65536 < R then R else -65536) = R by split <;> omega])
          · exact GA.out
        · have e3 : decide (R < -65536) = false := decide_eq_false c4
          have s1 : Hid (sideM d x = R) := by show _ = _; rw [HS.out]; first | (rw [if_pos (by omega)]; done) | (rw [if_neg (by omega), if_pos (by omega)]; done) | (rw [if_neg (by omega), if_neg (by omega)]; done)
          have g1 : Hid (gainM d far = 0) := by show _ = _; rw [HG.out]; first | (rw [if_pos (by omega)]; done) | (rw [if_neg (by omega)]; done)
          clear HS HG
          repeat (first
            | (go_at_call 63; refine (sdiv_any _ _ _).mono ?_; rintro e w3 ⟨rfl, hg3⟩; replace GA := hgt GA hg3; clear hg3; rw [HRS.out]; dsimp only)
            | (go_at_call 64; refine (sdown _ 2 _ (by omega) (by omega) (by omega) (by omega)).mono ?_; rintro e w' ⟨rfl, rfl⟩; dsimp only)
            | (go_at_call 47; refine (smul_any _ _ _).mono ?_; rintro e w4 ⟨rfl, hg4⟩; replace GA := hgt GA hg4; clear hg4; dsimp only)
            | go_values | go_skip | go_guarded | go_step | go_upon)
          go_returns
          refine ⟨⟨d, HDR.out, ?_⟩, ?_⟩
          · refine ret_three ?_ ?_ <;> rw [g1.out, s1.out] <;> first | rfl | (rw [show (if -65536 < R then R else -65536) = R by split <;> omega])
          · exact GA.out
    · have e1 : decide (0 < d) = false := decide_eq_false c2
      have hR0 := hRz c2
      subst hR0
      clear hRs hRz
      have s1 : Hid (sideM d x = 0) := by show _ = _; rw [HS.out]; first | (rw [if_pos (by omega)]; done) | (rw [if_neg (by omega), if_pos (by omega)]; done) | (rw [if_neg (by omega), if_neg (by omega)]; done)
      have g1 : Hid (gainM d far = 0) := by show _ = _; rw [HG.out]; first | (rw [if_pos (by omega)]; done) | (rw [if_neg (by omega)]; done)
      clear HS HG
      repeat (first
        | (go_at_call 64; refine (sdown _ 2 _ (by omega) (by omega) (by omega) (by omega)).mono ?_; rintro e w' ⟨rfl, rfl⟩; dsimp only)
        | (go_at_call 47; refine (smul_any _ _ _).mono ?_; rintro e w4 ⟨rfl, hg4⟩; replace GA := hgt GA hg4; clear hg4; dsimp only)
        | go_values | go_skip | go_guarded | go_step | go_upon)
      go_returns
      refine ⟨⟨d, HDR.out, ?_⟩, ?_⟩
      · refine ret_three ?_ ?_ <;> rw [g1.out, s1.out] <;> first | rfl | (rw [show (if -65536 < R then R else -65536) = R by split <;> omega])
      · exact GA.out

end Go.Proofs.Ytapfafibhjpkdaa
