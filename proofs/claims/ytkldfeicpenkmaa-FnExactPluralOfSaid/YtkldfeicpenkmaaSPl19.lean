/-
  The forms of numbers in the specification.
-/
import Derived.Test.YtkldfeicpenkmaaForm19
namespace Go.Proofs.Ytkldfeicpenkmaa
open Go.ChangeShapes Go.WideShapes Go.ChangeAt Go.RowKit

set_option maxRecDepth 100000
set_option linter.unusedVariables false
set_option linter.unusedSimpArgs false

set_option maxHeartbeats 4000000 in
theorem sslav (n : Int) (h0' : 0 ≤ n) (w : World) : Calls Try.prog 26 #[.int .i64 n] w fun e w' => e = .returned (.int .i64 (slavM n)) ∧ w' = w := by
  obtain ⟨R, hR⟩ : ∃ R : Int, slavM n = R := ⟨_, rfl⟩
  have HR : Hid (slavM n = R) := hR
  rw [hR]
  clear hR
  by_cases h0 : 2 ≤ n % 10 ∧ n % 10 ≤ 4
  · have d0a : decide (2 ≤ n % 10 ∧ n % 10 ≤ 4) = true := decide_eq_true h0
    have H0 : Hid (2 ≤ n % 10 ∧ n % 10 ≤ 4) := h0
    clear h0
    by_cases h1 : 12 ≤ n % 100 ∧ n % 100 ≤ 14
    · have d1a : decide (12 ≤ n % 100 ∧ n % 100 ≤ 14) = true := decide_eq_true h1
      have H1 : Hid (12 ≤ n % 100 ∧ n % 100 ≤ 14) := h1
      clear h1
      go_enter Try.func26, Try.ntmps26
      repeat (first | (go_at_call 25; refine (sInG _ _ _ _).mono ?_; rintro e w3 ⟨rfl, hw3⟩; rw [hw3]; clear hw3 w3; (first | rw [d0a] | rw [d1a]); dsimp only) | go_values | go_skip | go_guarded | go_step | go_upon)
      go_ret
      refine ⟨ret_intG ?_, rfl⟩
      rw [← HR.out]
      have h0 := H0.out
      have h1 := H1.out
      simp only [slavM, FewP]
      (repeat' split) <;> omega
    · have d1a : decide (12 ≤ n % 100 ∧ n % 100 ≤ 14) = false := decide_eq_false h1
      have H1 : Hid (¬ (12 ≤ n % 100 ∧ n % 100 ≤ 14)) := h1
      clear h1
      go_enter Try.func26, Try.ntmps26
      repeat (first | (go_at_call 25; refine (sInG _ _ _ _).mono ?_; rintro e w3 ⟨rfl, hw3⟩; rw [hw3]; clear hw3 w3; (first | rw [d0a] | rw [d1a]); dsimp only) | go_values | go_skip | go_guarded | go_step | go_upon)
      go_ret
      refine ⟨ret_intG ?_, rfl⟩
      rw [← HR.out]
      have h0 := H0.out
      have h1 := H1.out
      simp only [slavM, FewP]
      (repeat' split) <;> omega
  · have d0a : decide (2 ≤ n % 10 ∧ n % 10 ≤ 4) = false := decide_eq_false h0
    have H0 : Hid (¬ (2 ≤ n % 10 ∧ n % 10 ≤ 4)) := h0
    clear h0
    go_enter Try.func26, Try.ntmps26
    repeat (first | (go_at_call 25; refine (sInG _ _ _ _).mono ?_; rintro e w3 ⟨rfl, hw3⟩; rw [hw3]; clear hw3 w3; (first | rw [d0a]); dsimp only) | go_values | go_skip | go_guarded | go_step | go_upon)
    go_ret
    refine ⟨ret_intG ?_, rfl⟩
    rw [← HR.out]
    have h0 := H0.out
    simp only [slavM, FewP]
    (repeat' split) <;> omega

set_option maxHeartbeats 4000000 in
theorem s_ar (s : ByteArray) (hs : s.toList = [97, 114]) (n : Int) (hc : 0 ≤ n ∧ n ≤ 1000000000) (w : World) : Calls Try.prog 7 #[.string s, .int .i64 n] w fun e w' => e = .returned (.int .i64 (plur_ar n)) ∧ w' = w := by
  have dc : decide (0 ≤ n ∧ n ≤ 1000000000) = true := decide_eq_true hc
  have h0' := hc.1
  obtain ⟨R, hR⟩ : ∃ R : Int, plur_ar n = R := ⟨_, rfl⟩
  have HR : Hid (plur_ar n = R) := hR
  rw [hR]
  clear hR
  have e_ar : (s.toList == [97, 114]) = true := by rw [hs]; decide
  have e_cs : (s.toList == [99, 115]) = false := by rw [hs]; decide
  have e_en : (s.toList == [101, 110]) = false := by rw [hs]; decide
  have e_fr : (s.toList == [102, 114]) = false := by rw [hs]; decide
  have e_ja : (s.toList == [106, 97]) = false := by rw [hs]; decide
  have e_pl : (s.toList == [112, 108]) = false := by rw [hs]; decide
  have e_ru : (s.toList == [114, 117]) = false := by rw [hs]; decide
  clear hs
  by_cases h0 : n = 1
  · have d0a : (n == 1) = true := by simpa using h0
    have d0b : (n != 1) = false := by simpa using h0
    have H0 : Hid (n = 1) := h0
    clear h0
    go_enter Try.func7, Try.ntmps7
    repeat (first | (go_at_call 25; refine (sInG _ _ _ _).mono ?_; rintro e w3 ⟨rfl, hw3⟩; rw [hw3]; clear hw3 w3; (first | rw [dc] | fail); dsimp only) | (go_at_call 26; refine (sslav n h0' _).mono ?_; rintro e w3 ⟨rfl, hw3⟩; rw [hw3]; clear hw3 w3; dsimp only) | go_values | go_skip | go_guarded | go_step | go_upon)
    go_ret
    refine ⟨ret_intG ?_, rfl⟩
    rw [← HR.out]
    have h0 := H0.out
    simp only [plur_ar]
    (repeat' split) <;> omega
  · have d0a : (n == 1) = false := by simpa using h0
    have d0b : (n != 1) = true := by simpa using h0
    have H0 : Hid (¬ (n = 1)) := h0
    clear h0
    by_cases h1 : n = 2
    · have d1a : (n == 2) = true := by simpa using h1
      have d1b : (n != 2) = false := by simpa using h1
      have H1 : Hid (n = 2) := h1
      clear h1
      go_enter Try.func7, Try.ntmps7
      repeat (first | (go_at_call 25; refine (sInG _ _ _ _).mono ?_; rintro e w3 ⟨rfl, hw3⟩; rw [hw3]; clear hw3 w3; (first | rw [dc] | fail); dsimp only) | (go_at_call 26; refine (sslav n h0' _).mono ?_; rintro e w3 ⟨rfl, hw3⟩; rw [hw3]; clear hw3 w3; dsimp only) | go_values | go_skip | go_guarded | go_step | go_upon)
      go_ret
      refine ⟨ret_intG ?_, rfl⟩
      rw [← HR.out]
      have h0 := H0.out
      have h1 := H1.out
      simp only [plur_ar]
      (repeat' split) <;> omega
    · have d1a : (n == 2) = false := by simpa using h1
      have d1b : (n != 2) = true := by simpa using h1
      have H1 : Hid (¬ (n = 2)) := h1
      clear h1
      by_cases h2 : 3 ≤ n % 100 ∧ n % 100 ≤ 10
      · have d2a : decide (3 ≤ n % 100 ∧ n % 100 ≤ 10) = true := decide_eq_true h2
        have H2 : Hid (3 ≤ n % 100 ∧ n % 100 ≤ 10) := h2
        clear h2
        go_enter Try.func7, Try.ntmps7
        repeat (first | (go_at_call 25; refine (sInG _ _ _ _).mono ?_; rintro e w3 ⟨rfl, hw3⟩; rw [hw3]; clear hw3 w3; (first | rw [dc] | rw [d2a]); dsimp only) | (go_at_call 26; refine (sslav n h0' _).mono ?_; rintro e w3 ⟨rfl, hw3⟩; rw [hw3]; clear hw3 w3; dsimp only) | go_values | go_skip | go_guarded | go_step | go_upon)
        go_ret
        refine ⟨ret_intG ?_, rfl⟩
        rw [← HR.out]
        have h0 := H0.out
        have h1 := H1.out
        have h2 := H2.out
        simp only [plur_ar]
        (repeat' split) <;> omega
      · have d2a : decide (3 ≤ n % 100 ∧ n % 100 ≤ 10) = false := decide_eq_false h2
        have H2 : Hid (¬ (3 ≤ n % 100 ∧ n % 100 ≤ 10)) := h2
        clear h2
        by_cases h3 : 10 < n % 100
        · have d3a : decide (10 < n % 100) = true := decide_eq_true h3
          have H3 : Hid (10 < n % 100) := h3
          clear h3
          go_enter Try.func7, Try.ntmps7
          repeat (first | (go_at_call 25; refine (sInG _ _ _ _).mono ?_; rintro e w3 ⟨rfl, hw3⟩; rw [hw3]; clear hw3 w3; (first | rw [dc] | rw [d2a] | rw [d3a]); dsimp only) | (go_at_call 26; refine (sslav n h0' _).mono ?_; rintro e w3 ⟨rfl, hw3⟩; rw [hw3]; clear hw3 w3; dsimp only) | go_values | go_skip | go_guarded | go_step | go_upon)
          go_ret
          refine ⟨ret_intG ?_, rfl⟩
          rw [← HR.out]
          have h0 := H0.out
          have h1 := H1.out
          have h2 := H2.out
          have h3 := H3.out
          simp only [plur_ar]
          (repeat' split) <;> omega
        · have d3a : decide (10 < n % 100) = false := decide_eq_false h3
          have H3 : Hid (¬ (10 < n % 100)) := h3
          clear h3
          go_enter Try.func7, Try.ntmps7
          repeat (first | (go_at_call 25; refine (sInG _ _ _ _).mono ?_; rintro e w3 ⟨rfl, hw3⟩; rw [hw3]; clear hw3 w3; (first | rw [dc] | rw [d2a] | rw [d3a]); dsimp only) | (go_at_call 26; refine (sslav n h0' _).mono ?_; rintro e w3 ⟨rfl, hw3⟩; rw [hw3]; clear hw3 w3; dsimp only) | go_values | go_skip | go_guarded | go_step | go_upon)
          go_ret
          refine ⟨ret_intG ?_, rfl⟩
          rw [← HR.out]
          have h0 := H0.out
          have h1 := H1.out
          have h2 := H2.out
          have h3 := H3.out
          simp only [plur_ar]
          (repeat' split) <;> omega

set_option maxHeartbeats 4000000 in
theorem s_cs (s : ByteArray) (hs : s.toList = [99, 115]) (n : Int) (hc : 0 ≤ n ∧ n ≤ 1000000000) (w : World) : Calls Try.prog 7 #[.string s, .int .i64 n] w fun e w' => e = .returned (.int .i64 (plur_cs n)) ∧ w' = w := by
  have dc : decide (0 ≤ n ∧ n ≤ 1000000000) = true := decide_eq_true hc
  have h0' := hc.1
  obtain ⟨R, hR⟩ : ∃ R : Int, plur_cs n = R := ⟨_, rfl⟩
  have HR : Hid (plur_cs n = R) := hR
  rw [hR]
  clear hR
  have e_ar : (s.toList == [97, 114]) = false := by rw [hs]; decide
  have e_cs : (s.toList == [99, 115]) = true := by rw [hs]; decide
  have e_en : (s.toList == [101, 110]) = false := by rw [hs]; decide
  have e_fr : (s.toList == [102, 114]) = false := by rw [hs]; decide
  have e_ja : (s.toList == [106, 97]) = false := by rw [hs]; decide
  have e_pl : (s.toList == [112, 108]) = false := by rw [hs]; decide
  have e_ru : (s.toList == [114, 117]) = false := by rw [hs]; decide
  clear hs
  by_cases h0 : n = 1
  · have d0a : (n == 1) = true := by simpa using h0
    have d0b : (n != 1) = false := by simpa using h0
    have H0 : Hid (n = 1) := h0
    clear h0
    go_enter Try.func7, Try.ntmps7
    repeat (first | (go_at_call 25; refine (sInG _ _ _ _).mono ?_; rintro e w3 ⟨rfl, hw3⟩; rw [hw3]; clear hw3 w3; (first | rw [dc] | fail); dsimp only) | (go_at_call 26; refine (sslav n h0' _).mono ?_; rintro e w3 ⟨rfl, hw3⟩; rw [hw3]; clear hw3 w3; dsimp only) | go_values | go_skip | go_guarded | go_step | go_upon)
    go_ret
    refine ⟨ret_intG ?_, rfl⟩
    rw [← HR.out]
    have h0 := H0.out
    simp only [plur_cs]
    (repeat' split) <;> omega
  · have d0a : (n == 1) = false := by simpa using h0
    have d0b : (n != 1) = true := by simpa using h0
    have H0 : Hid (¬ (n = 1)) := h0
    clear h0
    by_cases h1 : 2 ≤ n ∧ n ≤ 4
    · have d1a : decide (2 ≤ n ∧ n ≤ 4) = true := decide_eq_true h1
      have H1 : Hid (2 ≤ n ∧ n ≤ 4) := h1
      clear h1
      go_enter Try.func7, Try.ntmps7
      repeat (first | (go_at_call 25; refine (sInG _ _ _ _).mono ?_; rintro e w3 ⟨rfl, hw3⟩; rw [hw3]; clear hw3 w3; (first | rw [dc] | rw [d1a]); dsimp only) | (go_at_call 26; refine (sslav n h0' _).mono ?_; rintro e w3 ⟨rfl, hw3⟩; rw [hw3]; clear hw3 w3; dsimp only) | go_values | go_skip | go_guarded | go_step | go_upon)
      go_ret
      refine ⟨ret_intG ?_, rfl⟩
      rw [← HR.out]
      have h0 := H0.out
      have h1 := H1.out
      simp only [plur_cs]
      (repeat' split) <;> omega
    · have d1a : decide (2 ≤ n ∧ n ≤ 4) = false := decide_eq_false h1
      have H1 : Hid (¬ (2 ≤ n ∧ n ≤ 4)) := h1
      clear h1
      go_enter Try.func7, Try.ntmps7
      repeat (first | (go_at_call 25; refine (sInG _ _ _ _).mono ?_; rintro e w3 ⟨rfl, hw3⟩; rw [hw3]; clear hw3 w3; (first | rw [dc] | rw [d1a]); dsimp only) | (go_at_call 26; refine (sslav n h0' _).mono ?_; rintro e w3 ⟨rfl, hw3⟩; rw [hw3]; clear hw3 w3; dsimp only) | go_values | go_skip | go_guarded | go_step | go_upon)
      go_ret
      refine ⟨ret_intG ?_, rfl⟩
      rw [← HR.out]
      have h0 := H0.out
      have h1 := H1.out
      simp only [plur_cs]
      (repeat' split) <;> omega

set_option maxHeartbeats 4000000 in
theorem s_en (s : ByteArray) (hs : s.toList = [101, 110]) (n : Int) (hc : 0 ≤ n ∧ n ≤ 1000000000) (w : World) : Calls Try.prog 7 #[.string s, .int .i64 n] w fun e w' => e = .returned (.int .i64 (plur_en n)) ∧ w' = w := by
  have dc : decide (0 ≤ n ∧ n ≤ 1000000000) = true := decide_eq_true hc
  have h0' := hc.1
  obtain ⟨R, hR⟩ : ∃ R : Int, plur_en n = R := ⟨_, rfl⟩
  have HR : Hid (plur_en n = R) := hR
  rw [hR]
  clear hR
  have e_ar : (s.toList == [97, 114]) = false := by rw [hs]; decide
  have e_cs : (s.toList == [99, 115]) = false := by rw [hs]; decide
  have e_en : (s.toList == [101, 110]) = true := by rw [hs]; decide
  have e_fr : (s.toList == [102, 114]) = false := by rw [hs]; decide
  have e_ja : (s.toList == [106, 97]) = false := by rw [hs]; decide
  have e_pl : (s.toList == [112, 108]) = false := by rw [hs]; decide
  have e_ru : (s.toList == [114, 117]) = false := by rw [hs]; decide
  clear hs
  by_cases h0 : n = 1
  · have d0a : (n == 1) = true := by simpa using h0
    have d0b : (n != 1) = false := by simpa using h0
    have H0 : Hid (n = 1) := h0
    clear h0
    go_enter Try.func7, Try.ntmps7
    repeat (first | (go_at_call 25; refine (sInG _ _ _ _).mono ?_; rintro e w3 ⟨rfl, hw3⟩; rw [hw3]; clear hw3 w3; (first | rw [dc] | fail); dsimp only) | (go_at_call 26; refine (sslav n h0' _).mono ?_; rintro e w3 ⟨rfl, hw3⟩; rw [hw3]; clear hw3 w3; dsimp only) | go_values | go_skip | go_guarded | go_step | go_upon)
    go_ret
    refine ⟨ret_intG ?_, rfl⟩
    rw [← HR.out]
    have h0 := H0.out
    simp only [plur_en]
    (repeat' split) <;> omega
  · have d0a : (n == 1) = false := by simpa using h0
    have d0b : (n != 1) = true := by simpa using h0
    have H0 : Hid (¬ (n = 1)) := h0
    clear h0
    go_enter Try.func7, Try.ntmps7
    repeat (first | (go_at_call 25; refine (sInG _ _ _ _).mono ?_; rintro e w3 ⟨rfl, hw3⟩; rw [hw3]; clear hw3 w3; (first | rw [dc] | fail); dsimp only) | (go_at_call 26; refine (sslav n h0' _).mono ?_; rintro e w3 ⟨rfl, hw3⟩; rw [hw3]; clear hw3 w3; dsimp only) | go_values | go_skip | go_guarded | go_step | go_upon)
    go_ret
    refine ⟨ret_intG ?_, rfl⟩
    rw [← HR.out]
    have h0 := H0.out
    simp only [plur_en]
    (repeat' split) <;> omega

set_option maxHeartbeats 4000000 in
theorem s_fr (s : ByteArray) (hs : s.toList = [102, 114]) (n : Int) (hc : 0 ≤ n ∧ n ≤ 1000000000) (w : World) : Calls Try.prog 7 #[.string s, .int .i64 n] w fun e w' => e = .returned (.int .i64 (plur_fr n)) ∧ w' = w := by
  have dc : decide (0 ≤ n ∧ n ≤ 1000000000) = true := decide_eq_true hc
  have h0' := hc.1
  obtain ⟨R, hR⟩ : ∃ R : Int, plur_fr n = R := ⟨_, rfl⟩
  have HR : Hid (plur_fr n = R) := hR
  rw [hR]
  clear hR
  have e_ar : (s.toList == [97, 114]) = false := by rw [hs]; decide
  have e_cs : (s.toList == [99, 115]) = false := by rw [hs]; decide
  have e_en : (s.toList == [101, 110]) = false := by rw [hs]; decide
  have e_fr : (s.toList == [102, 114]) = true := by rw [hs]; decide
  have e_ja : (s.toList == [106, 97]) = false := by rw [hs]; decide
  have e_pl : (s.toList == [112, 108]) = false := by rw [hs]; decide
  have e_ru : (s.toList == [114, 117]) = false := by rw [hs]; decide
  clear hs
  by_cases h0 : n ≤ 1
  · have d0a : decide (n ≤ 1) = true := decide_eq_true h0
    have H0 : Hid (n ≤ 1) := h0
    clear h0
    go_enter Try.func7, Try.ntmps7
    repeat (first | (go_at_call 25; refine (sInG _ _ _ _).mono ?_; rintro e w3 ⟨rfl, hw3⟩; rw [hw3]; clear hw3 w3; (first | rw [dc] | rw [d0a]); dsimp only) | (go_at_call 26; refine (sslav n h0' _).mono ?_; rintro e w3 ⟨rfl, hw3⟩; rw [hw3]; clear hw3 w3; dsimp only) | go_values | go_skip | go_guarded | go_step | go_upon)
    go_ret
    refine ⟨ret_intG ?_, rfl⟩
    rw [← HR.out]
    have h0 := H0.out
    simp only [plur_fr]
    (repeat' split) <;> omega
  · have d0a : decide (n ≤ 1) = false := decide_eq_false h0
    have H0 : Hid (¬ (n ≤ 1)) := h0
    clear h0
    go_enter Try.func7, Try.ntmps7
    repeat (first | (go_at_call 25; refine (sInG _ _ _ _).mono ?_; rintro e w3 ⟨rfl, hw3⟩; rw [hw3]; clear hw3 w3; (first | rw [dc] | rw [d0a]); dsimp only) | (go_at_call 26; refine (sslav n h0' _).mono ?_; rintro e w3 ⟨rfl, hw3⟩; rw [hw3]; clear hw3 w3; dsimp only) | go_values | go_skip | go_guarded | go_step | go_upon)
    go_ret
    refine ⟨ret_intG ?_, rfl⟩
    rw [← HR.out]
    have h0 := H0.out
    simp only [plur_fr]
    (repeat' split) <;> omega

set_option maxHeartbeats 4000000 in
theorem s_ja (s : ByteArray) (hs : s.toList = [106, 97]) (n : Int) (hc : 0 ≤ n ∧ n ≤ 1000000000) (w : World) : Calls Try.prog 7 #[.string s, .int .i64 n] w fun e w' => e = .returned (.int .i64 (plur_ja n)) ∧ w' = w := by
  have dc : decide (0 ≤ n ∧ n ≤ 1000000000) = true := decide_eq_true hc
  have h0' := hc.1
  obtain ⟨R, hR⟩ : ∃ R : Int, plur_ja n = R := ⟨_, rfl⟩
  have HR : Hid (plur_ja n = R) := hR
  rw [hR]
  clear hR
  have e_ar : (s.toList == [97, 114]) = false := by rw [hs]; decide
  have e_cs : (s.toList == [99, 115]) = false := by rw [hs]; decide
  have e_en : (s.toList == [101, 110]) = false := by rw [hs]; decide
  have e_fr : (s.toList == [102, 114]) = false := by rw [hs]; decide
  have e_ja : (s.toList == [106, 97]) = true := by rw [hs]; decide
  have e_pl : (s.toList == [112, 108]) = false := by rw [hs]; decide
  have e_ru : (s.toList == [114, 117]) = false := by rw [hs]; decide
  clear hs
  go_enter Try.func7, Try.ntmps7
  repeat (first | (go_at_call 25; refine (sInG _ _ _ _).mono ?_; rintro e w3 ⟨rfl, hw3⟩; rw [hw3]; clear hw3 w3; (first | rw [dc] | fail); dsimp only) | (go_at_call 26; refine (sslav n h0' _).mono ?_; rintro e w3 ⟨rfl, hw3⟩; rw [hw3]; clear hw3 w3; dsimp only) | go_values | go_skip | go_guarded | go_step | go_upon)
  go_ret
  exact ⟨ret_intG (by rw [← HR.out]; rfl), rfl⟩

set_option maxHeartbeats 4000000 in
theorem s_pl (s : ByteArray) (hs : s.toList = [112, 108]) (n : Int) (hc : 0 ≤ n ∧ n ≤ 1000000000) (w : World) : Calls Try.prog 7 #[.string s, .int .i64 n] w fun e w' => e = .returned (.int .i64 (plur_pl n)) ∧ w' = w := by
  have dc : decide (0 ≤ n ∧ n ≤ 1000000000) = true := decide_eq_true hc
  have h0' := hc.1
  obtain ⟨R, hR⟩ : ∃ R : Int, plur_pl n = R := ⟨_, rfl⟩
  have HR : Hid (plur_pl n = R) := hR
  rw [hR]
  clear hR
  have e_ar : (s.toList == [97, 114]) = false := by rw [hs]; decide
  have e_cs : (s.toList == [99, 115]) = false := by rw [hs]; decide
  have e_en : (s.toList == [101, 110]) = false := by rw [hs]; decide
  have e_fr : (s.toList == [102, 114]) = false := by rw [hs]; decide
  have e_ja : (s.toList == [106, 97]) = false := by rw [hs]; decide
  have e_pl : (s.toList == [112, 108]) = true := by rw [hs]; decide
  have e_ru : (s.toList == [114, 117]) = false := by rw [hs]; decide
  clear hs
  by_cases h0 : n = 1
  · have d0a : (n == 1) = true := by simpa using h0
    have d0b : (n != 1) = false := by simpa using h0
    have H0 : Hid (n = 1) := h0
    clear h0
    go_enter Try.func7, Try.ntmps7
    repeat (first | (go_at_call 25; refine (sInG _ _ _ _).mono ?_; rintro e w3 ⟨rfl, hw3⟩; rw [hw3]; clear hw3 w3; (first | rw [dc] | fail); dsimp only) | (go_at_call 26; refine (sslav n h0' _).mono ?_; rintro e w3 ⟨rfl, hw3⟩; rw [hw3]; clear hw3 w3; dsimp only) | go_values | go_skip | go_guarded | go_step | go_upon)
    go_ret
    refine ⟨ret_intG ?_, rfl⟩
    rw [← HR.out]
    have h0 := H0.out
    simp only [plur_pl]
    (repeat' split) <;> omega
  · have d0a : (n == 1) = false := by simpa using h0
    have d0b : (n != 1) = true := by simpa using h0
    have H0 : Hid (¬ (n = 1)) := h0
    clear h0
    go_enter Try.func7, Try.ntmps7
    repeat (first | (go_at_call 25; refine (sInG _ _ _ _).mono ?_; rintro e w3 ⟨rfl, hw3⟩; rw [hw3]; clear hw3 w3; (first | rw [dc] | fail); dsimp only) | (go_at_call 26; refine (sslav n h0' _).mono ?_; rintro e w3 ⟨rfl, hw3⟩; rw [hw3]; clear hw3 w3; dsimp only) | go_values | go_skip | go_guarded | go_step | go_upon)
    go_ret
    refine ⟨ret_intG ?_, rfl⟩
    rw [← HR.out]
    have h0 := H0.out
    simp only [plur_pl]
    (repeat' split) <;> omega

set_option maxHeartbeats 4000000 in
theorem s_ru (s : ByteArray) (hs : s.toList = [114, 117]) (n : Int) (hc : 0 ≤ n ∧ n ≤ 1000000000) (w : World) : Calls Try.prog 7 #[.string s, .int .i64 n] w fun e w' => e = .returned (.int .i64 (plur_ru n)) ∧ w' = w := by
  have dc : decide (0 ≤ n ∧ n ≤ 1000000000) = true := decide_eq_true hc
  have h0' := hc.1
  obtain ⟨R, hR⟩ : ∃ R : Int, plur_ru n = R := ⟨_, rfl⟩
  have HR : Hid (plur_ru n = R) := hR
  rw [hR]
  clear hR
  have e_ar : (s.toList == [97, 114]) = false := by rw [hs]; decide
  have e_cs : (s.toList == [99, 115]) = false := by rw [hs]; decide
  have e_en : (s.toList == [101, 110]) = false := by rw [hs]; decide
  have e_fr : (s.toList == [102, 114]) = false := by rw [hs]; decide
  have e_ja : (s.toList == [106, 97]) = false := by rw [hs]; decide
  have e_pl : (s.toList == [112, 108]) = false := by rw [hs]; decide
  have e_ru : (s.toList == [114, 117]) = true := by rw [hs]; decide
  clear hs
  by_cases h0 : n % 10 = 1
  · have d0a : (n % 10 == 1) = true := by simpa using h0
    have d0b : (n % 10 != 1) = false := by simpa using h0
    have H0 : Hid (n % 10 = 1) := h0
    clear h0
    by_cases h1 : n % 100 = 11
    · have d1a : (n % 100 == 11) = true := by simpa using h1
      have d1b : (n % 100 != 11) = false := by simpa using h1
      have H1 : Hid (n % 100 = 11) := h1
      clear h1
      go_enter Try.func7, Try.ntmps7
      repeat (first | (go_at_call 25; refine (sInG _ _ _ _).mono ?_; rintro e w3 ⟨rfl, hw3⟩; rw [hw3]; clear hw3 w3; (first | rw [dc] | fail); dsimp only) | (go_at_call 26; refine (sslav n h0' _).mono ?_; rintro e w3 ⟨rfl, hw3⟩; rw [hw3]; clear hw3 w3; dsimp only) | go_values | go_skip | go_guarded | go_step | go_upon)
      go_ret
      refine ⟨ret_intG ?_, rfl⟩
      rw [← HR.out]
      have h0 := H0.out
      have h1 := H1.out
      simp only [plur_ru]
      (repeat' split) <;> omega
    · have d1a : (n % 100 == 11) = false := by simpa using h1
      have d1b : (n % 100 != 11) = true := by simpa using h1
      have H1 : Hid (¬ (n % 100 = 11)) := h1
      clear h1
      go_enter Try.func7, Try.ntmps7
      repeat (first | (go_at_call 25; refine (sInG _ _ _ _).mono ?_; rintro e w3 ⟨rfl, hw3⟩; rw [hw3]; clear hw3 w3; (first | rw [dc] | fail); dsimp only) | (go_at_call 26; refine (sslav n h0' _).mono ?_; rintro e w3 ⟨rfl, hw3⟩; rw [hw3]; clear hw3 w3; dsimp only) | go_values | go_skip | go_guarded | go_step | go_upon)
      go_ret
      refine ⟨ret_intG ?_, rfl⟩
      rw [← HR.out]
      have h0 := H0.out
      have h1 := H1.out
      simp only [plur_ru]
      (repeat' split) <;> omega
  · have d0a : (n % 10 == 1) = false := by simpa using h0
    have d0b : (n % 10 != 1) = true := by simpa using h0
    have H0 : Hid (¬ (n % 10 = 1)) := h0
    clear h0
    go_enter Try.func7, Try.ntmps7
    repeat (first | (go_at_call 25; refine (sInG _ _ _ _).mono ?_; rintro e w3 ⟨rfl, hw3⟩; rw [hw3]; clear hw3 w3; (first | rw [dc] | fail); dsimp only) | (go_at_call 26; refine (sslav n h0' _).mono ?_; rintro e w3 ⟨rfl, hw3⟩; rw [hw3]; clear hw3 w3; dsimp only) | go_values | go_skip | go_guarded | go_step | go_upon)
    go_ret
    refine ⟨ret_intG ?_, rfl⟩
    rw [← HR.out]
    have h0 := H0.out
    simp only [plur_ru]
    (repeat' split) <;> omega

set_option maxHeartbeats 4000000 in
theorem s_out (s : ByteArray) (n : Int) (hc : ¬ (0 ≤ n ∧ n ≤ 1000000000)) (w : World) : Calls Try.prog 7 #[.string s, .int .i64 n] w fun e w' => e = .returned (.int .i64 0) ∧ w' = w := by
  have dc : decide (0 ≤ n ∧ n ≤ 1000000000) = false := decide_eq_false hc
  clear hc
  go_enter Try.func7, Try.ntmps7
  repeat (first | (go_at_call 25; refine (sInG _ _ _ _).mono ?_; rintro e w3 ⟨rfl, hw3⟩; rw [hw3]; clear hw3 w3; (first | rw [dc] | fail); dsimp only) | (go_at_call 26; refine (sslav n h0' _).mono ?_; rintro e w3 ⟨rfl, hw3⟩; rw [hw3]; clear hw3 w3; dsimp only) | go_values | go_skip | go_guarded | go_step | go_upon)
  go_ret
  exact ⟨rfl, rfl⟩
set_option maxHeartbeats 4000000 in
theorem s_no (s : ByteArray) (n : Int) (hc : 0 ≤ n ∧ n ≤ 1000000000) (h_ar : s.toList ≠ [97, 114]) (h_cs : s.toList ≠ [99, 115]) (h_en : s.toList ≠ [101, 110]) (h_fr : s.toList ≠ [102, 114]) (h_ja : s.toList ≠ [106, 97]) (h_pl : s.toList ≠ [112, 108]) (h_ru : s.toList ≠ [114, 117]) (w : World) : Calls Try.prog 7 #[.string s, .int .i64 n] w fun e w' => e = .returned (.int .i64 0) ∧ w' = w := by
  have dc : decide (0 ≤ n ∧ n ≤ 1000000000) = true := decide_eq_true hc
  have h0' := hc.1
  have e_ar : (s.toList == [97, 114]) = false := by simpa using h_ar
  have e_cs : (s.toList == [99, 115]) = false := by simpa using h_cs
  have e_en : (s.toList == [101, 110]) = false := by simpa using h_en
  have e_fr : (s.toList == [102, 114]) = false := by simpa using h_fr
  have e_ja : (s.toList == [106, 97]) = false := by simpa using h_ja
  have e_pl : (s.toList == [112, 108]) = false := by simpa using h_pl
  have e_ru : (s.toList == [114, 117]) = false := by simpa using h_ru
  go_enter Try.func7, Try.ntmps7
  repeat (first | (go_at_call 25; refine (sInG _ _ _ _).mono ?_; rintro e w3 ⟨rfl, hw3⟩; rw [hw3]; clear hw3 w3; (first | rw [dc] | fail); dsimp only) | (go_at_call 26; refine (sslav n h0' _).mono ?_; rintro e w3 ⟨rfl, hw3⟩; rw [hw3]; clear hw3 w3; dsimp only) | go_values | go_skip | go_guarded | go_step | go_upon)
  go_ret
  exact ⟨rfl, rfl⟩

end Go.Proofs.Ytkldfeicpenkmaa
