/-
  What both EaseAt answer.
-/
import Derived.Test.YthihgjcnjgpegaaMulAll
namespace Go.Proofs.Ythihgjcnjgpegaa
open Go.ChangeShapes Go.WideShapes Go.ChangeAt Go.RowKit Plain

theorem mulM_bd (a b : Int) : -1099511627776 ≤ mulM a b ∧ mulM a b ≤ 1099511627776 := by
  unfold mulM
  split
  · unfold nearM cutM
    repeat' split
    all_goals omega
  · omega
def easeM (k p : Int) : Int := if p < 0 ∨ 65536 < p then 0 else if k = 1 then p else if k = 2 then mulM p p else if k = 3 then 65536 - mulM (65536 - p) (65536 - p) else if k = 4 then mulM (mulM p p) (196608 - 2 * p) else 0
theorem retB {a b : Bool} (h : a = b) : Ending.returned (.bool a) = .returned (.bool b) := by rw [h]
theorem in_any (n lo hi : Int) (w : World) : Calls Try.prog 46 #[.int .i64 n, .int .i64 lo, .int .i64 hi] w fun e w' => e = .returned (.bool (decide (lo ≤ n ∧ n ≤ hi))) ∧ w' = w := by
  go_enter Try.func46, Try.ntmps46
  go_wp2
  all_goals
    go_ret
    exact ⟨retB (by rw [Bool.eq_iff_iff]; simp <;> omega), rfl⟩
theorem easeIn (p : Int) (w : World) : Calls Try.prog 60 #[.int .i64 p] w fun e w' => e = .returned (.int .i64 (mulM p p)) ∧ w' = w := by
  go_enter Try.func60, Try.ntmps60
  go_wp2_with (go_at_call 61; refine (imul_any _ _ _).mono ?_; rintro e w2 ⟨rfl, rfl⟩)
  go_ret
  exact ⟨rfl, rfl⟩
theorem easeI (k p : Int) (w : World) : Calls Try.prog 31 #[.int .i64 k, .int .i64 p] w fun e w' => e = .returned (.int .i64 (easeM k p)) ∧ w' = w := by
  have hb := mulM_bd (65536 - p) (65536 - p)
  by_cases h : p < 0 ∨ 65536 < p
  · rw [show easeM k p = 0 by simp [easeM, h]]
    go_enter Try.func31, Try.ntmps31
    go_wp2
    all_goals
      first
        | (go_ret; exact ⟨rfl, rfl⟩)
        | omega
  · by_cases h1 : k = 1
    · subst h1
      rw [show easeM 1 p = p by simp [easeM, h]]
      go_enter Try.func31, Try.ntmps31
      go_wp2_with (first | (go_at_call 60; refine (easeIn _ _).mono ?_; rintro e w2 ⟨rfl, rfl⟩) | (go_at_call 61; refine (imul_any _ _ _).mono ?_; rintro e w2 ⟨rfl, rfl⟩))
      go_ret
      exact ⟨rfl, rfl⟩
    by_cases h2 : k = 2
    · subst h2
      rw [show easeM 2 p = mulM p p by simp [easeM, h]]
      go_enter Try.func31, Try.ntmps31
      go_wp2_with (first | (go_at_call 60; refine (easeIn _ _).mono ?_; rintro e w2 ⟨rfl, rfl⟩) | (go_at_call 61; refine (imul_any _ _ _).mono ?_; rintro e w2 ⟨rfl, rfl⟩))
      go_ret
      exact ⟨rfl, rfl⟩
    by_cases h3 : k = 3
    · subst h3
      rw [show easeM 3 p = 65536 - mulM (65536 - p) (65536 - p) by simp [easeM, h]]
      go_enter Try.func31, Try.ntmps31
      go_wp2_with (first | (go_at_call 60; refine (easeIn _ _).mono ?_; rintro e w2 ⟨rfl, rfl⟩) | (go_at_call 61; refine (imul_any _ _ _).mono ?_; rintro e w2 ⟨rfl, rfl⟩))
      go_ret
      exact ⟨rfl, rfl⟩
    by_cases h4 : k = 4
    · subst h4
      rw [show easeM 4 p = mulM (mulM p p) (196608 - 2 * p) by simp [easeM, h]]
      go_enter Try.func31, Try.ntmps31
      go_wp2_with (first | (go_at_call 60; refine (easeIn _ _).mono ?_; rintro e w2 ⟨rfl, rfl⟩) | (go_at_call 61; refine (imul_any _ _ _).mono ?_; rintro e w2 ⟨rfl, rfl⟩))
      go_ret
      exact ⟨rfl, rfl⟩
    rw [show easeM k p = 0 by simp [easeM, h, h1, h2, h3, h4]]
    go_enter Try.func31, Try.ntmps31
    go_wp2
    go_ret
    exact ⟨rfl, rfl⟩
theorem easeS (k p : Int) (w : World) : Calls Try.prog 30 #[.int .i64 k, .int .i64 p] w fun e w' => e = .returned (.int .i64 (easeM k p)) ∧ Grown w w' := by
  have hb := mulM_bd (65536 - p) (65536 - p)
  by_cases h : p < 0 ∨ 65536 < p
  · rw [show easeM k p = 0 by simp [easeM, h]]
    have hd : decide (0 ≤ p ∧ p ≤ 65536) = false := by simp; omega
    go_enter Try.func30, Try.ntmps30
    go_wp2_with (go_at_call 46; refine (in_any _ _ _ _).mono ?_; rintro e w1 ⟨rfl, rfl⟩; rw [hd])
    go_ret
    exact ⟨rfl, Grown.refl _⟩
  · have hd : decide (0 ≤ p ∧ p ≤ 65536) = true := by simp; omega
    by_cases h1 : k = 1
    · subst h1
      rw [show easeM 1 p = p by simp [easeM, h]]
      go_enter Try.func30, Try.ntmps30
      go_wp2_with (first | (go_at_call 46; refine (in_any _ _ _ _).mono ?_; rintro e w1 ⟨rfl, rfl⟩; rw [hd]) | (go_at_call 59; refine (smul_any _ _ _).mono ?_; rintro e w2 ⟨rfl, g2⟩))
      go_ret
      exact ⟨rfl, g2⟩
    by_cases h2 : k = 2
    · subst h2
      rw [show easeM 2 p = mulM p p by simp [easeM, h]]
      go_enter Try.func30, Try.ntmps30
      go_wp2_with (first | (go_at_call 46; refine (in_any _ _ _ _).mono ?_; rintro e w1 ⟨rfl, rfl⟩; rw [hd]) | (go_at_call 59; refine (smul_any _ _ _).mono ?_; rintro e w2 ⟨rfl, g2⟩))
      go_ret
      exact ⟨rfl, g2⟩
    by_cases h3 : k = 3
    · subst h3
      rw [show easeM 3 p = 65536 - mulM (65536 - p) (65536 - p) by simp [easeM, h]]
      go_enter Try.func30, Try.ntmps30
      go_wp2_with fail
      go_at_call 46; refine (in_any _ _ _ _).mono ?_; rintro e w1 ⟨rfl, rfl⟩; rw [hd]
      go_wp2_with fail
      go_at_call 59; refine (smul_any _ _ _).mono ?_; rintro e w2 ⟨rfl, g2⟩
      go_wp2_with fail
      go_at_call 59; refine (smul_any _ _ _).mono ?_; rintro e w3 ⟨rfl, g3⟩
      go_wp2
      go_ret
      exact ⟨rfl, gtrans g2 g3⟩
    by_cases h4 : k = 4
    · subst h4
      rw [show easeM 4 p = mulM (mulM p p) (196608 - 2 * p) by simp [easeM, h]]
      go_enter Try.func30, Try.ntmps30
      go_wp2_with fail
      go_at_call 46; refine (in_any _ _ _ _).mono ?_; rintro e w1 ⟨rfl, rfl⟩; rw [hd]
      go_wp2_with fail
      go_at_call 59; refine (smul_any _ _ _).mono ?_; rintro e w2 ⟨rfl, g2⟩
      go_wp2_with fail
      go_at_call 59; refine (smul_any _ _ _).mono ?_; rintro e w3 ⟨rfl, g3⟩
      go_wp2
      go_ret
      exact ⟨rfl, gtrans g2 g3⟩
    rw [show easeM k p = 0 by simp [easeM, h, h1, h2, h3, h4]]
    go_enter Try.func30, Try.ntmps30
    go_wp2_with (first | (go_at_call 46; refine (in_any _ _ _ _).mono ?_; rintro e w1 ⟨rfl, rfl⟩; rw [hd]) | (go_at_call 59; refine (smul_any _ _ _).mono ?_; rintro e w2 ⟨rfl, g2⟩))
    go_ret
    exact ⟨rfl, g2⟩

end Go.Proofs.Ythihgjcnjgpegaa
