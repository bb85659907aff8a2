/-
  The forms of numbers, language by language, in the program.
-/
import Derived.Test.YtkldfeicpenkmaaRows
import Derived.Test.YtkldfeicpenkmaaNumM
import Derived.Test.YtkldfeicpenkmaaQuiet
import Derived.WalkKit
import Derived.ProofKit
import Derived.OpenShut
import Derived.Handy
namespace Go.Proofs.Ytkldfeicpenkmaa
open Go.ChangeShapes Go.WideShapes Go.ChangeAt Go.RowKit

set_option maxRecDepth 100000
set_option linter.unusedVariables false
set_option linter.unusedSimpArgs false

theorem ret_intG {a b : Int} (h : a = b) : Ending.returned (.int .i64 a) = .returned (.int .i64 b) := by rw [h]
theorem ret_boolG {a b : Bool} (h : a = b) : Ending.returned (.bool a) = .returned (.bool b) := by rw [h]
abbrev FewP (n : Int) : Prop := (2 ≤ n % 10 ∧ n % 10 ≤ 4) ∧ ¬ (12 ≤ n % 100 ∧ n % 100 ≤ 14)
def slavM (n : Int) : Int := if FewP n then 3 else 4
def plur_en (n : Int) : Int := if n = 1 then 1 else 5
def plur_fr (n : Int) : Int := if n ≤ 1 then 1 else 5
def plur_ja (n : Int) : Int := 5
def plur_cs (n : Int) : Int := if n = 1 then 1 else if 2 ≤ n ∧ n ≤ 4 then 3 else 5
def plur_pl (n : Int) : Int := if n = 1 then 1 else slavM n
def plur_ru (n : Int) : Int := if n % 10 = 1 ∧ n % 100 ≠ 11 then 1 else slavM n
def plur_ar (n : Int) : Int := if n = 1 then 1 else if n = 2 then 2 else if 3 ≤ n % 100 ∧ n % 100 ≤ 10 then 3 else if 10 < n % 100 then 4 else 5

theorem sInG (x lo hi : Int) (w : World) : Calls Try.prog 25 #[.int .i64 x, .int .i64 lo, .int .i64 hi] w fun e w' => e = .returned (.bool (decide (lo ≤ x ∧ x ≤ hi))) ∧ w' = w := by
  go_enter Try.func25, Try.ntmps25
  go_wp2
  all_goals
    go_ret
    exact ⟨ret_boolG (by first | (rw [Bool.eq_iff_iff]; simp; omega) | (simp; omega)), rfl⟩

theorem icounted (x : Int) (w : World) : Calls Try.prog 28 #[.int .i64 x] w fun e w' => e = .returned (.bool (decide (0 ≤ x ∧ x ≤ 1000000000))) ∧ w' = w := by
  go_enter Try.func28, Try.ntmps28
  go_wp2
  all_goals
    go_ret
    exact ⟨ret_boolG (by first | (rw [Bool.eq_iff_iff]; simp; omega) | (simp; omega)), rfl⟩

set_option maxHeartbeats 4000000 in
theorem ifew (n : Int) (h0' : 0 ≤ n) (w : World) : Calls Try.prog 52 #[.int .i64 n] w fun e w' => e = .returned (.bool (decide (FewP n))) ∧ w' = w := by
  obtain ⟨R, hR⟩ : ∃ R : Bool, decide (FewP n) = R := ⟨_, rfl⟩
  have HR : Hid (decide (FewP n) = R) := hR
  rw [hR]
  clear hR
  by_cases h0 : 2 ≤ n % 10
  · have d0a : decide (2 ≤ n % 10) = true := decide_eq_true h0
    have H0 : Hid (2 ≤ n % 10) := h0
    clear h0
    by_cases h1 : n % 10 ≤ 4
    · have d1a : decide (n % 10 ≤ 4) = true := decide_eq_true h1
      have H1 : Hid (n % 10 ≤ 4) := h1
      clear h1
      by_cases h2 : n % 100 < 12
      · have d2a : decide (n % 100 < 12) = true := decide_eq_true h2
        have H2 : Hid (n % 100 < 12) := h2
        clear h2
        go_enter Try.func52, Try.ntmps52
        repeat (first | go_values | go_skip | go_guarded | go_step | go_upon)
        go_ret
        refine ⟨ret_boolG ?_, rfl⟩
        rw [← HR.out]
        have h0 := H0.out
        have h1 := H1.out
        have h2 := H2.out
        first | exact (decide_eq_true (by simp only [FewP]; omega)).symm | exact (decide_eq_false (by simp only [FewP]; omega)).symm
      · have d2a : decide (n % 100 < 12) = false := decide_eq_false h2
        have H2 : Hid (¬ (n % 100 < 12)) := h2
        clear h2
        by_cases h3 : 14 < n % 100
        · have d3a : decide (14 < n % 100) = true := decide_eq_true h3
          have H3 : Hid (14 < n % 100) := h3
          clear h3
          go_enter Try.func52, Try.ntmps52
          repeat (first | go_values | go_skip | go_guarded | go_step | go_upon)
          go_ret
          refine ⟨ret_boolG ?_, rfl⟩
          rw [← HR.out]
          have h0 := H0.out
          have h1 := H1.out
          have h2 := H2.out
          have h3 := H3.out
          first | exact (decide_eq_true (by simp only [FewP]; omega)).symm | exact (decide_eq_false (by simp only [FewP]; omega)).symm
        · have d3a : decide (14 < n % 100) = false := decide_eq_false h3
          have H3 : Hid (¬ (14 < n % 100)) := h3
          clear h3
          go_enter Try.func52, Try.ntmps52
          repeat (first | go_values | go_skip | go_guarded | go_step | go_upon)
          go_ret
          refine ⟨ret_boolG ?_, rfl⟩
          rw [← HR.out]
          have h0 := H0.out
          have h1 := H1.out
          have h2 := H2.out
          have h3 := H3.out
          first | exact (decide_eq_true (by simp only [FewP]; omega)).symm | exact (decide_eq_false (by simp only [FewP]; omega)).symm
    · have d1a : decide (n % 10 ≤ 4) = false := decide_eq_false h1
      have H1 : Hid (¬ (n % 10 ≤ 4)) := h1
      clear h1
      go_enter Try.func52, Try.ntmps52
      repeat (first | go_values | go_skip | go_guarded | go_step | go_upon)
      go_ret
      refine ⟨ret_boolG ?_, rfl⟩
      rw [← HR.out]
      have h0 := H0.out
      have h1 := H1.out
      first | exact (decide_eq_true (by simp only [FewP]; omega)).symm | exact (decide_eq_false (by simp only [FewP]; omega)).symm
  · have d0a : decide (2 ≤ n % 10) = false := decide_eq_false h0
    have H0 : Hid (¬ (2 ≤ n % 10)) := h0
    clear h0
    go_enter Try.func52, Try.ntmps52
    repeat (first | go_values | go_skip | go_guarded | go_step | go_upon)
    go_ret
    refine ⟨ret_boolG ?_, rfl⟩
    rw [← HR.out]
    have h0 := H0.out
    first | exact (decide_eq_true (by simp only [FewP]; omega)).symm | exact (decide_eq_false (by simp only [FewP]; omega)).symm

set_option maxHeartbeats 4000000 in
theorem iar (n : Int) (h0' : 0 ≤ n) (w : World) : Calls Try.prog 39 #[.int .i64 n] w fun e w' => e = .returned (.int .i64 (plur_ar n)) ∧ w' = w := by
  obtain ⟨R, hR⟩ : ∃ R : Int, plur_ar n = R := ⟨_, rfl⟩
  have HR : Hid (plur_ar n = R) := hR
  rw [hR]
  clear hR
  by_cases h0 : n = 1
  · have d0a : (n == 1) = true := by simpa using h0
    have d0b : (n != 1) = false := by simpa using h0
    have H0 : Hid (n = 1) := h0
    clear h0
    go_enter Try.func39, Try.ntmps39
    repeat (first | fail | go_values | go_skip | go_guarded | go_step | go_upon)
    go_ret
    refine ⟨ret_intG ?_, rfl⟩
    rw [← HR.out]
    have h0 := H0.out
    simp only [plur_ar, slavM, FewP]
    (repeat' split) <;> omega
  · have d0a : (n == 1) = false := by simpa using h0
    have d0b : (n != 1) = true := by simpa using h0
    have H0 : Hid (¬ (n = 1)) := h0
    clear h0
    by_cases h1 : n = 2
    · have d1a : (n == 2) = true := by simpa using h1
      have d1b : (n != 2) = false := by simpa using h1
      have H1 : Hid (n = 2) := h1
      clear h1
      go_enter Try.func39, Try.ntmps39
      repeat (first | fail | go_values | go_skip | go_guarded | go_step | go_upon)
      go_ret
      refine ⟨ret_intG ?_, rfl⟩
      rw [← HR.out]
      have h0 := H0.out
      have h1 := H1.out
      simp only [plur_ar, slavM, FewP]
      (repeat' split) <;> omega
    · have d1a : (n == 2) = false := by simpa using h1
      have d1b : (n != 2) = true := by simpa using h1
      have H1 : Hid (¬ (n = 2)) := h1
      clear h1
      by_cases h2 : 3 ≤ n % 100
      · have d2a : decide (3 ≤ n % 100) = true := decide_eq_true h2
        have H2 : Hid (3 ≤ n % 100) := h2
        clear h2
        by_cases h3 : n % 100 ≤ 10
        · have d3a : decide (n % 100 ≤ 10) = true := decide_eq_true h3
          have H3 : Hid (n % 100 ≤ 10) := h3
          clear h3
          go_enter Try.func39, Try.ntmps39
          repeat (first | fail | go_values | go_skip | go_guarded | go_step | go_upon)
          go_ret
          refine ⟨ret_intG ?_, rfl⟩
          rw [← HR.out]
          have h0 := H0.out
          have h1 := H1.out
          have h2 := H2.out
          have h3 := H3.out
          simp only [plur_ar, slavM, FewP]
          (repeat' split) <;> omega
        · have d3a : decide (n % 100 ≤ 10) = false := decide_eq_false h3
          have H3 : Hid (¬ (n % 100 ≤ 10)) := h3
          clear h3
          by_cases h4 : 11 ≤ n % 100
          · have d4a : decide (11 ≤ n % 100) = true := decide_eq_true h4
            have H4 : Hid (11 ≤ n % 100) := h4
            clear h4
            go_enter Try.func39, Try.ntmps39
            repeat (first | fail | go_values | go_skip | go_guarded | go_step | go_upon)
            go_ret
            refine ⟨ret_intG ?_, rfl⟩
            rw [← HR.out]
            have h0 := H0.out
            have h1 := H1.out
            have h2 := H2.out
            have h3 := H3.out
            have h4 := H4.out
            simp only [plur_ar, slavM, FewP]
            (repeat' split) <;> omega
          · have d4a : decide (11 ≤ n % 100) = false := decide_eq_false h4
            have H4 : Hid (¬ (11 ≤ n % 100)) := h4
            clear h4
            go_enter Try.func39, Try.ntmps39
            repeat (first | fail | go_values | go_skip | go_guarded | go_step | go_upon)
            go_ret
            refine ⟨ret_intG ?_, rfl⟩
            rw [← HR.out]
            have h0 := H0.out
            have h1 := H1.out
            have h2 := H2.out
            have h3 := H3.out
            have h4 := H4.out
            simp only [plur_ar, slavM, FewP]
            (repeat' split) <;> omega
      · have d2a : decide (3 ≤ n % 100) = false := decide_eq_false h2
        have H2 : Hid (¬ (3 ≤ n % 100)) := h2
        clear h2
        by_cases h3 : 11 ≤ n % 100
        · have d3a : decide (11 ≤ n % 100) = true := decide_eq_true h3
          have H3 : Hid (11 ≤ n % 100) := h3
          clear h3
          go_enter Try.func39, Try.ntmps39
          repeat (first | fail | go_values | go_skip | go_guarded | go_step | go_upon)
          go_ret
          refine ⟨ret_intG ?_, rfl⟩
          rw [← HR.out]
          have h0 := H0.out
          have h1 := H1.out
          have h2 := H2.out
          have h3 := H3.out
          simp only [plur_ar, slavM, FewP]
          (repeat' split) <;> omega
        · have d3a : decide (11 ≤ n % 100) = false := decide_eq_false h3
          have H3 : Hid (¬ (11 ≤ n % 100)) := h3
          clear h3
          go_enter Try.func39, Try.ntmps39
          repeat (first | fail | go_values | go_skip | go_guarded | go_step | go_upon)
          go_ret
          refine ⟨ret_intG ?_, rfl⟩
          rw [← HR.out]
          have h0 := H0.out
          have h1 := H1.out
          have h2 := H2.out
          have h3 := H3.out
          simp only [plur_ar, slavM, FewP]
          (repeat' split) <;> omega

set_option maxHeartbeats 4000000 in
theorem ics (n : Int) (h0' : 0 ≤ n) (w : World) : Calls Try.prog 40 #[.int .i64 n] w fun e w' => e = .returned (.int .i64 (plur_cs n)) ∧ w' = w := by
  obtain ⟨R, hR⟩ : ∃ R : Int, plur_cs n = R := ⟨_, rfl⟩
  have HR : Hid (plur_cs n = R) := hR
  rw [hR]
  clear hR
  by_cases h0 : n = 1
  · have d0a : (n == 1) = true := by simpa using h0
    have d0b : (n != 1) = false := by simpa using h0
    have H0 : Hid (n = 1) := h0
    clear h0
    go_enter Try.func40, Try.ntmps40
    repeat (first | fail | go_values | go_skip | go_guarded | go_step | go_upon)
    go_ret
    refine ⟨ret_intG ?_, rfl⟩
    rw [← HR.out]
    have h0 := H0.out
    simp only [plur_cs, slavM, FewP]
    (repeat' split) <;> omega
  · have d0a : (n == 1) = false := by simpa using h0
    have d0b : (n != 1) = true := by simpa using h0
    have H0 : Hid (¬ (n = 1)) := h0
    clear h0
    by_cases h1 : n = 2
    · have d1a : (n == 2) = true := by simpa using h1
      have d1b : (n != 2) = false := by simpa using h1
      have H1 : Hid (n = 2) := h1
      clear h1
      go_enter Try.func40, Try.ntmps40
      repeat (first | fail | go_values | go_skip | go_guarded | go_step | go_upon)
      go_ret
      refine ⟨ret_intG ?_, rfl⟩
      rw [← HR.out]
      have h0 := H0.out
      have h1 := H1.out
      simp only [plur_cs, slavM, FewP]
      (repeat' split) <;> omega
    · have d1a : (n == 2) = false := by simpa using h1
      have d1b : (n != 2) = true := by simpa using h1
      have H1 : Hid (¬ (n = 2)) := h1
      clear h1
      by_cases h2 : n = 3
      · have d2a : (n == 3) = true := by simpa using h2
        have d2b : (n != 3) = false := by simpa using h2
        have H2 : Hid (n = 3) := h2
        clear h2
        go_enter Try.func40, Try.ntmps40
        repeat (first | fail | go_values | go_skip | go_guarded | go_step | go_upon)
        go_ret
        refine ⟨ret_intG ?_, rfl⟩
        rw [← HR.out]
        have h0 := H0.out
        have h1 := H1.out
        have h2 := H2.out
        simp only [plur_cs, slavM, FewP]
        (repeat' split) <;> omega
      · have d2a : (n == 3) = false := by simpa using h2
        have d2b : (n != 3) = true := by simpa using h2
        have H2 : Hid (¬ (n = 3)) := h2
        clear h2
        by_cases h3 : n = 4
        · have d3a : (n == 4) = true := by simpa using h3
          have d3b : (n != 4) = false := by simpa using h3
          have H3 : Hid (n = 4) := h3
          clear h3
          go_enter Try.func40, Try.ntmps40
          repeat (first | fail | go_values | go_skip | go_guarded | go_step | go_upon)
          go_ret
          refine ⟨ret_intG ?_, rfl⟩
          rw [← HR.out]
          have h0 := H0.out
          have h1 := H1.out
          have h2 := H2.out
          have h3 := H3.out
          simp only [plur_cs, slavM, FewP]
          (repeat' split) <;> omega
        · have d3a : (n == 4) = false := by simpa using h3
          have d3b : (n != 4) = true := by simpa using h3
          have H3 : Hid (¬ (n = 4)) := h3
          clear h3
          go_enter Try.func40, Try.ntmps40
          repeat (first | fail | go_values | go_skip | go_guarded | go_step | go_upon)
          go_ret
          refine ⟨ret_intG ?_, rfl⟩
          rw [← HR.out]
          have h0 := H0.out
          have h1 := H1.out
          have h2 := H2.out
          have h3 := H3.out
          simp only [plur_cs, slavM, FewP]
          (repeat' split) <;> omega

set_option maxHeartbeats 4000000 in
theorem ien (n : Int) (h0' : 0 ≤ n) (w : World) : Calls Try.prog 41 #[.int .i64 n] w fun e w' => e = .returned (.int .i64 (plur_en n)) ∧ w' = w := by
  obtain ⟨R, hR⟩ : ∃ R : Int, plur_en n = R := ⟨_, rfl⟩
  have HR : Hid (plur_en n = R) := hR
  rw [hR]
  clear hR
  by_cases h0 : n = 1
  · have d0a : (n == 1) = true := by simpa using h0
    have d0b : (n != 1) = false := by simpa using h0
    have H0 : Hid (n = 1) := h0
    clear h0
    go_enter Try.func41, Try.ntmps41
    repeat (first | fail | go_values | go_skip | go_guarded | go_step | go_upon)
    go_ret
    refine ⟨ret_intG ?_, rfl⟩
    rw [← HR.out]
    have h0 := H0.out
    simp only [plur_en, slavM, FewP]
    (repeat' split) <;> omega
  · have d0a : (n == 1) = false := by simpa using h0
    have d0b : (n != 1) = true := by simpa using h0
    have H0 : Hid (¬ (n = 1)) := h0
    clear h0
    go_enter Try.func41, Try.ntmps41
    repeat (first | fail | go_values | go_skip | go_guarded | go_step | go_upon)
    go_ret
    refine ⟨ret_intG ?_, rfl⟩
    rw [← HR.out]
    have h0 := H0.out
    simp only [plur_en, slavM, FewP]
    (repeat' split) <;> omega

set_option maxHeartbeats 4000000 in
theorem ifr (n : Int) (h0' : 0 ≤ n) (w : World) : Calls Try.prog 42 #[.int .i64 n] w fun e w' => e = .returned (.int .i64 (plur_fr n)) ∧ w' = w := by
  obtain ⟨R, hR⟩ : ∃ R : Int, plur_fr n = R := ⟨_, rfl⟩
  have HR : Hid (plur_fr n = R) := hR
  rw [hR]
  clear hR
  by_cases h0 : n ≤ 1
  · have d0a : decide (n ≤ 1) = true := decide_eq_true h0
    have H0 : Hid (n ≤ 1) := h0
    clear h0
    go_enter Try.func42, Try.ntmps42
    repeat (first | fail | go_values | go_skip | go_guarded | go_step | go_upon)
    go_ret
    refine ⟨ret_intG ?_, rfl⟩
    rw [← HR.out]
    have h0 := H0.out
    simp only [plur_fr, slavM, FewP]
    (repeat' split) <;> omega
  · have d0a : decide (n ≤ 1) = false := decide_eq_false h0
    have H0 : Hid (¬ (n ≤ 1)) := h0
    clear h0
    go_enter Try.func42, Try.ntmps42
    repeat (first | fail | go_values | go_skip | go_guarded | go_step | go_upon)
    go_ret
    refine ⟨ret_intG ?_, rfl⟩
    rw [← HR.out]
    have h0 := H0.out
    simp only [plur_fr, slavM, FewP]
    (repeat' split) <;> omega

set_option maxHeartbeats 4000000 in
theorem ija (n : Int) (h0' : 0 ≤ n) (w : World) : Calls Try.prog 43 #[.int .i64 n] w fun e w' => e = .returned (.int .i64 (plur_ja n)) ∧ w' = w := by
  obtain ⟨R, hR⟩ : ∃ R : Int, plur_ja n = R := ⟨_, rfl⟩
  have HR : Hid (plur_ja n = R) := hR
  rw [hR]
  clear hR
  go_enter Try.func43, Try.ntmps43
  repeat (first | go_values | go_skip | go_guarded | go_step | go_upon)
  go_ret
  exact ⟨ret_intG (by rw [← HR.out]; rfl), rfl⟩

set_option maxHeartbeats 4000000 in
theorem ipl (n : Int) (h0' : 0 ≤ n) (w : World) : Calls Try.prog 44 #[.int .i64 n] w fun e w' => e = .returned (.int .i64 (plur_pl n)) ∧ w' = w := by
  obtain ⟨R, hR⟩ : ∃ R : Int, plur_pl n = R := ⟨_, rfl⟩
  have HR : Hid (plur_pl n = R) := hR
  rw [hR]
  clear hR
  by_cases h0 : n = 1
  · have d0a : (n == 1) = true := by simpa using h0
    have d0b : (n != 1) = false := by simpa using h0
    have H0 : Hid (n = 1) := h0
    clear h0
    go_enter Try.func44, Try.ntmps44
    repeat (first | (go_at_call 52; refine (ifew n h0' _).mono ?_; rintro e w3 ⟨rfl, hw3⟩; rw [hw3]; clear hw3 w3; (first | fail); dsimp only) | go_values | go_skip | go_guarded | go_step | go_upon)
    go_ret
    refine ⟨ret_intG ?_, rfl⟩
    rw [← HR.out]
    have h0 := H0.out
    simp only [plur_pl, slavM, FewP]
    (repeat' split) <;> omega
  · have d0a : (n == 1) = false := by simpa using h0
    have d0b : (n != 1) = true := by simpa using h0
    have H0 : Hid (¬ (n = 1)) := h0
    clear h0
    by_cases h1 : FewP n
    · have d1a : decide (FewP n) = true := decide_eq_true h1
      have H1 : Hid (FewP n) := h1
      clear h1
      go_enter Try.func44, Try.ntmps44
      repeat (first | (go_at_call 52; refine (ifew n h0' _).mono ?_; rintro e w3 ⟨rfl, hw3⟩; rw [hw3]; clear hw3 w3; (first | rw [d1a]); dsimp only) | go_values | go_skip | go_guarded | go_step | go_upon)
      go_ret
      refine ⟨ret_intG ?_, rfl⟩
      rw [← HR.out]
      have h0 := H0.out
      have h1 := H1.out
      simp only [FewP] at h1
      simp only [plur_pl, slavM, FewP]
      (repeat' split) <;> omega
    · have d1a : decide (FewP n) = false := decide_eq_false h1
      have H1 : Hid (¬ (FewP n)) := h1
      clear h1
      go_enter Try.func44, Try.ntmps44
      repeat (first | (go_at_call 52; refine (ifew n h0' _).mono ?_; rintro e w3 ⟨rfl, hw3⟩; rw [hw3]; clear hw3 w3; (first | rw [d1a]); dsimp only) | go_values | go_skip | go_guarded | go_step | go_upon)
      go_ret
      refine ⟨ret_intG ?_, rfl⟩
      rw [← HR.out]
      have h0 := H0.out
      have h1 := H1.out
      simp only [FewP] at h1
      simp only [plur_pl, slavM, FewP]
      (repeat' split) <;> omega

set_option maxHeartbeats 4000000 in
theorem iru (n : Int) (h0' : 0 ≤ n) (w : World) : Calls Try.prog 45 #[.int .i64 n] w fun e w' => e = .returned (.int .i64 (plur_ru n)) ∧ w' = w := by
  obtain ⟨R, hR⟩ : ∃ R : Int, plur_ru n = R := ⟨_, rfl⟩
  have HR : Hid (plur_ru n = R) := hR
  rw [hR]
  clear hR
  by_cases h0 : n % 10 = 1
  · have d0a : (n % 10 == 1) = true := by simpa using h0
    have d0b : (n % 10 != 1) = false := by simpa using h0
    have H0 : Hid (n % 10 = 1) := h0
    clear h0
    by_cases h1 : n % 100 = 11
    · have d1a : (n % 100 == 11) = true := by simpa using h1
      have d1b : (n % 100 != 11) = false := by simpa using h1
      have H1 : Hid (n % 100 = 11) := h1
      clear h1
      by_cases h2 : FewP n
      · have d2a : decide (FewP n) = true := decide_eq_true h2
        have H2 : Hid (FewP n) := h2
        clear h2
        go_enter Try.func45, Try.ntmps45
        repeat (first | (go_at_call 52; refine (ifew n h0' _).mono ?_; rintro e w3 ⟨rfl, hw3⟩; rw [hw3]; clear hw3 w3; (first | rw [d2a]); dsimp only) | go_values | go_skip | go_guarded | go_step | go_upon)
        go_ret
        refine ⟨ret_intG ?_, rfl⟩
        rw [← HR.out]
        have h0 := H0.out
        have h1 := H1.out
        have h2 := H2.out
        simp only [FewP] at h2
        simp only [plur_ru, slavM, FewP]
        (repeat' split) <;> omega
      · have d2a : decide (FewP n) = false := decide_eq_false h2
        have H2 : Hid (¬ (FewP n)) := h2
        clear h2
        go_enter Try.func45, Try.ntmps45
        repeat (first | (go_at_call 52; refine (ifew n h0' _).mono ?_; rintro e w3 ⟨rfl, hw3⟩; rw [hw3]; clear hw3 w3; (first | rw [d2a]); dsimp only) | go_values | go_skip | go_guarded | go_step | go_upon)
        go_ret
        refine ⟨ret_intG ?_, rfl⟩
        rw [← HR.out]
        have h0 := H0.out
        have h1 := H1.out
        have h2 := H2.out
        simp only [FewP] at h2
        simp only [plur_ru, slavM, FewP]
        (repeat' split) <;> omega
    · have d1a : (n % 100 == 11) = false := by simpa using h1
      have d1b : (n % 100 != 11) = true := by simpa using h1
      have H1 : Hid (¬ (n % 100 = 11)) := h1
      clear h1
      go_enter Try.func45, Try.ntmps45
      repeat (first | (go_at_call 52; refine (ifew n h0' _).mono ?_; rintro e w3 ⟨rfl, hw3⟩; rw [hw3]; clear hw3 w3; (first | fail); dsimp only) | go_values | go_skip | go_guarded | go_step | go_upon)
      go_ret
      refine ⟨ret_intG ?_, rfl⟩
      rw [← HR.out]
      have h0 := H0.out
      have h1 := H1.out
      simp only [plur_ru, slavM, FewP]
      (repeat' split) <;> omega
  · have d0a : (n % 10 == 1) = false := by simpa using h0
    have d0b : (n % 10 != 1) = true := by simpa using h0
    have H0 : Hid (¬ (n % 10 = 1)) := h0
    clear h0
    by_cases h1 : FewP n
    · have d1a : decide (FewP n) = true := decide_eq_true h1
      have H1 : Hid (FewP n) := h1
      clear h1
      go_enter Try.func45, Try.ntmps45
      repeat (first | (go_at_call 52; refine (ifew n h0' _).mono ?_; rintro e w3 ⟨rfl, hw3⟩; rw [hw3]; clear hw3 w3; (first | rw [d1a]); dsimp only) | go_values | go_skip | go_guarded | go_step | go_upon)
      go_ret
      refine ⟨ret_intG ?_, rfl⟩
      rw [← HR.out]
      have h0 := H0.out
      have h1 := H1.out
      simp only [FewP] at h1
      simp only [plur_ru, slavM, FewP]
      (repeat' split) <;> omega
    · have d1a : decide (FewP n) = false := decide_eq_false h1
      have H1 : Hid (¬ (FewP n)) := h1
      clear h1
      go_enter Try.func45, Try.ntmps45
      repeat (first | (go_at_call 52; refine (ifew n h0' _).mono ?_; rintro e w3 ⟨rfl, hw3⟩; rw [hw3]; clear hw3 w3; (first | rw [d1a]); dsimp only) | go_values | go_skip | go_guarded | go_step | go_upon)
      go_ret
      refine ⟨ret_intG ?_, rfl⟩
      rw [← HR.out]
      have h0 := H0.out
      have h1 := H1.out
      simp only [FewP] at h1
      simp only [plur_ru, slavM, FewP]
      (repeat' split) <;> omega

end Go.Proofs.Ytkldfeicpenkmaa
