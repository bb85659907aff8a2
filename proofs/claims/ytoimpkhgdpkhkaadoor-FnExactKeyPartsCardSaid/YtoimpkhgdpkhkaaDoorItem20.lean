/-
  Which items are good, on both sides.
-/
import Derived.Test.YtoimpkhgdpkhkaaDoorLeaf20
namespace Go.Proofs.YtoimpkhgdpkhkaaDoor
open Go.ChangeShapes Go.WideShapes Go.ChangeAt Go.RowKit

set_option maxRecDepth 100000
set_option linter.unusedVariables false
set_option linter.unusedSimpArgs false

set_option maxHeartbeats 4000000 in
theorem sitem (f0 f1 f2 f3 : Int) (f4 : Bool) (f5 f6 f7 f8 : Int) (w : World) : Calls Tryd.prog 31 #[.agg #[.int .i64 f0, .int .i64 f1, .int .i64 f2, .int .i64 f3, .bool f4, .int .i64 f5, .int .i64 f6, .int .i64 f7, .int .i64 f8]] w fun e w' => e = .returned (.bool (decide (ItemP (f0, f1, f2, f3, f4, f5, f6, f7, f8)))) ∧ Kept w w' := by
  obtain ⟨R, hR⟩ : ∃ R : Bool, decide (ItemP (f0, f1, f2, f3, f4, f5, f6, f7, f8)) = R := ⟨_, rfl⟩
  rw [hR]
  have HR : Hid (decide (ItemP (f0, f1, f2, f3, f4, f5, f6, f7, f8)) = R) := hR
  clear hR
  rcases (Decidable.em (0 ≤ f0 ∧ f0 ≤ 7)).symm with h0 | h0
  · have d0 : decide (0 ≤ f0 ∧ f0 ≤ 7) = false := decide_eq_false h0
    have hF : R = false := by rw [← HR.out]; exact decide_eq_false (fun hh => h0 (by (try simp only [ItemP, HeadP, BoxP, MeetP] at hh); (try simp only [ItemP, HeadP, BoxP, MeetP]); omega))
    subst hF
    have HX : Hid _ := h0
    clear h0
    go_enter Tryd.func31, Tryd.ntmps31
    repeat (first | (go_at_call 44; refine (sInG _ _ _ _).mono ?_; rintro e w3 ⟨rfl, hw3⟩; rw [hw3]; clear hw3 w3; (first | rw [d0]); dsimp only) | (go_at_call 42; refine (sbox _ _ _ _ _).mono ?_; rintro e w4 ⟨rfl, k4⟩; rw [d4]; dsimp only) | go_values | go_skip | go_guarded | go_step | go_upon)
    go_ret
    exact ⟨rfl, (But.refl _ _ _).alloc _⟩
  have d0 : decide (0 ≤ f0 ∧ f0 ≤ 7) = true := decide_eq_true h0
  rcases (Decidable.em (0 ≤ f1 ∧ f1 ≤ 255)).symm with h1 | h1
  · have d1 : decide (0 ≤ f1 ∧ f1 ≤ 255) = false := decide_eq_false h1
    have hF : R = false := by rw [← HR.out]; exact decide_eq_false (fun hh => h1 (by (try simp only [ItemP, HeadP, BoxP, MeetP] at hh); (try simp only [ItemP, HeadP, BoxP, MeetP]); omega))
    subst hF
    have HX : Hid _ := h1
    clear h1
    go_enter Tryd.func31, Tryd.ntmps31
    repeat (first | (go_at_call 44; refine (sInG _ _ _ _).mono ?_; rintro e w3 ⟨rfl, hw3⟩; rw [hw3]; clear hw3 w3; (first | rw [d0] | rw [d1]); dsimp only) | (go_at_call 42; refine (sbox _ _ _ _ _).mono ?_; rintro e w4 ⟨rfl, k4⟩; rw [d4]; dsimp only) | go_values | go_skip | go_guarded | go_step | go_upon)
    go_ret
    exact ⟨rfl, (But.refl _ _ _).alloc _⟩
  have d1 : decide (0 ≤ f1 ∧ f1 ≤ 255) = true := decide_eq_true h1
  rcases (Decidable.em (0 ≤ f2 ∧ f2 ≤ 255)).symm with h2 | h2
  · have d2 : decide (0 ≤ f2 ∧ f2 ≤ 255) = false := decide_eq_false h2
    have hF : R = false := by rw [← HR.out]; exact decide_eq_false (fun hh => h2 (by (try simp only [ItemP, HeadP, BoxP, MeetP] at hh); (try simp only [ItemP, HeadP, BoxP, MeetP]); omega))
    subst hF
    have HX : Hid _ := h2
    clear h2
    go_enter Tryd.func31, Tryd.ntmps31
    repeat (first | (go_at_call 44; refine (sInG _ _ _ _).mono ?_; rintro e w3 ⟨rfl, hw3⟩; rw [hw3]; clear hw3 w3; (first | rw [d0] | rw [d1] | rw [d2]); dsimp only) | (go_at_call 42; refine (sbox _ _ _ _ _).mono ?_; rintro e w4 ⟨rfl, k4⟩; rw [d4]; dsimp only) | go_values | go_skip | go_guarded | go_step | go_upon)
    go_ret
    exact ⟨rfl, (But.refl _ _ _).alloc _⟩
  have d2 : decide (0 ≤ f2 ∧ f2 ≤ 255) = true := decide_eq_true h2
  rcases (Decidable.em (0 ≤ f3 ∧ f3 ≤ 4095)).symm with h3 | h3
  · have d3 : decide (0 ≤ f3 ∧ f3 ≤ 4095) = false := decide_eq_false h3
    have hF : R = false := by rw [← HR.out]; exact decide_eq_false (fun hh => h3 (by (try simp only [ItemP, HeadP, BoxP, MeetP] at hh); (try simp only [ItemP, HeadP, BoxP, MeetP]); omega))
    subst hF
    have HX : Hid _ := h3
    clear h3
    go_enter Tryd.func31, Tryd.ntmps31
    repeat (first | (go_at_call 44; refine (sInG _ _ _ _).mono ?_; rintro e w3 ⟨rfl, hw3⟩; rw [hw3]; clear hw3 w3; (first | rw [d0] | rw [d1] | rw [d2] | rw [d3]); dsimp only) | (go_at_call 42; refine (sbox _ _ _ _ _).mono ?_; rintro e w4 ⟨rfl, k4⟩; rw [d4]; dsimp only) | go_values | go_skip | go_guarded | go_step | go_upon)
    go_ret
    exact ⟨rfl, (But.refl _ _ _).alloc _⟩
  have d3 : decide (0 ≤ f3 ∧ f3 ≤ 4095) = true := decide_eq_true h3
  rcases (Decidable.em (BoxP f5 f6 f7 f8)).symm with h4 | h4
  · have d4 : decide (BoxP f5 f6 f7 f8) = false := decide_eq_false h4
    have hF : R = false := by rw [← HR.out]; exact decide_eq_false (fun hh => h4 (by (try simp only [ItemP, HeadP, BoxP, MeetP] at hh); (try simp only [ItemP, HeadP, BoxP, MeetP]); omega))
    subst hF
    have HX : Hid _ := h4
    clear h4
    go_enter Tryd.func31, Tryd.ntmps31
    repeat (first | (go_at_call 44; refine (sInG _ _ _ _).mono ?_; rintro e w3 ⟨rfl, hw3⟩; rw [hw3]; clear hw3 w3; (first | rw [d0] | rw [d1] | rw [d2] | rw [d3] | rw [d4]); dsimp only) | (go_at_call 42; refine (sbox _ _ _ _ _).mono ?_; rintro e w4 ⟨rfl, k4⟩; rw [d4]; dsimp only) | go_values | go_skip | go_guarded | go_step | go_upon)
    go_ret
    exact ⟨rfl, ((But.refl _ _ _).alloc _).trans k4⟩
  have d4 : decide (BoxP f5 f6 f7 f8) = true := decide_eq_true h4
  have hT : R = true := by rw [← HR.out]; exact decide_eq_true (by simp only [ItemP, HeadP, BoxP, MeetP] at *; omega)
  subst hT
  go_enter Tryd.func31, Tryd.ntmps31
  repeat (first | (go_at_call 44; refine (sInG _ _ _ _).mono ?_; rintro e w3 ⟨rfl, hw3⟩; rw [hw3]; clear hw3 w3; (first | rw [d0] | rw [d1] | rw [d2] | rw [d3] | rw [d4]); dsimp only) | (go_at_call 42; refine (sbox _ _ _ _ _).mono ?_; rintro e w4 ⟨rfl, k4⟩; rw [d4]; dsimp only) | go_values | go_skip | go_guarded | go_step | go_upon)
  go_ret
  exact ⟨rfl, ((But.refl _ _ _).alloc _).trans k4⟩

set_option maxHeartbeats 4000000 in
theorem iitem (f0 f1 f2 f3 : Int) (f4 : Bool) (f5 f6 f7 f8 : Int) (w : World) : Calls Tryd.prog 28 #[.agg #[.int .i64 f0, .int .i64 f1, .int .i64 f2, .int .i64 f3, .bool f4, .int .i64 f5, .int .i64 f6, .int .i64 f7, .int .i64 f8]] w fun e w' => e = .returned (.bool (decide (ItemP (f0, f1, f2, f3, f4, f5, f6, f7, f8)))) ∧ Kept w w' := by
  obtain ⟨R, hR⟩ : ∃ R : Bool, decide (ItemP (f0, f1, f2, f3, f4, f5, f6, f7, f8)) = R := ⟨_, rfl⟩
  rw [hR]
  have HR : Hid (decide (ItemP (f0, f1, f2, f3, f4, f5, f6, f7, f8)) = R) := hR
  clear hR
  rcases (Decidable.em (0 ≤ f0)).symm with h0 | h0
  · have d0 : decide (0 ≤ f0) = false := decide_eq_false h0
    have hF : R = false := by rw [← HR.out]; exact decide_eq_false (fun hh => h0 (by (try simp only [ItemP, HeadP, BoxP, MeetP] at hh); (try simp only [ItemP, HeadP, BoxP, MeetP]); omega))
    subst hF
    have HX : Hid _ := h0
    clear h0
    go_enter Tryd.func28, Tryd.ntmps28
    repeat (first | (go_at_call 51; refine (istuff _ _).mono ?_; rintro e w3 ⟨rfl, hw3⟩; rw [hw3]; clear hw3 w3; (first | rw [d0]); dsimp only) | (go_at_call 40; refine (iarea _ _ _ _ _).mono ?_; rintro e w4 ⟨rfl, k4⟩; rw [d6]; dsimp only) | go_values | go_skip | go_guarded | go_step | go_upon)
    go_ret
    exact ⟨rfl, (But.refl _ _ _).alloc _⟩
  have d0 : decide (0 ≤ f0) = true := decide_eq_true h0
  rcases (Decidable.em (f0 ≤ 7)).symm with h1 | h1
  · have d1 : decide (f0 ≤ 7) = false := decide_eq_false h1
    have hF : R = false := by rw [← HR.out]; exact decide_eq_false (fun hh => h1 (by (try simp only [ItemP, HeadP, BoxP, MeetP] at hh); (try simp only [ItemP, HeadP, BoxP, MeetP]); omega))
    subst hF
    have HX : Hid _ := h1
    clear h1
    go_enter Tryd.func28, Tryd.ntmps28
    repeat (first | (go_at_call 51; refine (istuff _ _).mono ?_; rintro e w3 ⟨rfl, hw3⟩; rw [hw3]; clear hw3 w3; (first | rw [d0] | rw [d1]); dsimp only) | (go_at_call 40; refine (iarea _ _ _ _ _).mono ?_; rintro e w4 ⟨rfl, k4⟩; rw [d6]; dsimp only) | go_values | go_skip | go_guarded | go_step | go_upon)
    go_ret
    exact ⟨rfl, (But.refl _ _ _).alloc _⟩
  have d1 : decide (f0 ≤ 7) = true := decide_eq_true h1
  rcases (Decidable.em (0 ≤ f1 ∧ f1 ≤ 255)).symm with h2 | h2
  · have d2 : decide (0 ≤ f1 ∧ f1 ≤ 255) = false := decide_eq_false h2
    have hF : R = false := by rw [← HR.out]; exact decide_eq_false (fun hh => h2 (by (try simp only [ItemP, HeadP, BoxP, MeetP] at hh); (try simp only [ItemP, HeadP, BoxP, MeetP]); omega))
    subst hF
    have HX : Hid _ := h2
    clear h2
    go_enter Tryd.func28, Tryd.ntmps28
    repeat (first | (go_at_call 51; refine (istuff _ _).mono ?_; rintro e w3 ⟨rfl, hw3⟩; rw [hw3]; clear hw3 w3; (first | rw [d0] | rw [d1] | rw [d2]); dsimp only) | (go_at_call 40; refine (iarea _ _ _ _ _).mono ?_; rintro e w4 ⟨rfl, k4⟩; rw [d6]; dsimp only) | go_values | go_skip | go_guarded | go_step | go_upon)
    go_ret
    exact ⟨rfl, (But.refl _ _ _).alloc _⟩
  have d2 : decide (0 ≤ f1 ∧ f1 ≤ 255) = true := decide_eq_true h2
  rcases (Decidable.em (0 ≤ f2 ∧ f2 ≤ 255)).symm with h3 | h3
  · have d3 : decide (0 ≤ f2 ∧ f2 ≤ 255) = false := decide_eq_false h3
    have hF : R = false := by rw [← HR.out]; exact decide_eq_false (fun hh => h3 (by (try simp only [ItemP, HeadP, BoxP, MeetP] at hh); (try simp only [ItemP, HeadP, BoxP, MeetP]); omega))
    subst hF
    have HX : Hid _ := h3
    clear h3
    go_enter Tryd.func28, Tryd.ntmps28
    repeat (first | (go_at_call 51; refine (istuff _ _).mono ?_; rintro e w3 ⟨rfl, hw3⟩; rw [hw3]; clear hw3 w3; (first | rw [d0] | rw [d1] | rw [d2] | rw [d3]); dsimp only) | (go_at_call 40; refine (iarea _ _ _ _ _).mono ?_; rintro e w4 ⟨rfl, k4⟩; rw [d6]; dsimp only) | go_values | go_skip | go_guarded | go_step | go_upon)
    go_ret
    exact ⟨rfl, (But.refl _ _ _).alloc _⟩
  have d3 : decide (0 ≤ f2 ∧ f2 ≤ 255) = true := decide_eq_true h3
  rcases (Decidable.em (0 ≤ f3)).symm with h4 | h4
  · have d4 : decide (0 ≤ f3) = false := decide_eq_false h4
    have hF : R = false := by rw [← HR.out]; exact decide_eq_false (fun hh => h4 (by (try simp only [ItemP, HeadP, BoxP, MeetP] at hh); (try simp only [ItemP, HeadP, BoxP, MeetP]); omega))
    subst hF
    have HX : Hid _ := h4
    clear h4
    go_enter Tryd.func28, Tryd.ntmps28
    repeat (first | (go_at_call 51; refine (istuff _ _).mono ?_; rintro e w3 ⟨rfl, hw3⟩; rw [hw3]; clear hw3 w3; (first | rw [d0] | rw [d1] | rw [d2] | rw [d3] | rw [d4]); dsimp only) | (go_at_call 40; refine (iarea _ _ _ _ _).mono ?_; rintro e w4 ⟨rfl, k4⟩; rw [d6]; dsimp only) | go_values | go_skip | go_guarded | go_step | go_upon)
    go_ret
    exact ⟨rfl, (But.refl _ _ _).alloc _⟩
  have d4 : decide (0 ≤ f3) = true := decide_eq_true h4
  rcases (Decidable.em (f3 ≤ 4095)).symm with h5 | h5
  · have d5 : decide (f3 ≤ 4095) = false := decide_eq_false h5
    have hF : R = false := by rw [← HR.out]; exact decide_eq_false (fun hh => h5 (by (try simp only [ItemP, HeadP, BoxP, MeetP] at hh); (try simp only [ItemP, HeadP, BoxP, MeetP]); omega))
    subst hF
    have HX : Hid _ := h5
    clear h5
    go_enter Tryd.func28, Tryd.ntmps28
    repeat (first | (go_at_call 51; refine (istuff _ _).mono ?_; rintro e w3 ⟨rfl, hw3⟩; rw [hw3]; clear hw3 w3; (first | rw [d0] | rw [d1] | rw [d2] | rw [d3] | rw [d4] | rw [d5]); dsimp only) | (go_at_call 40; refine (iarea _ _ _ _ _).mono ?_; rintro e w4 ⟨rfl, k4⟩; rw [d6]; dsimp only) | go_values | go_skip | go_guarded | go_step | go_upon)
    go_ret
    exact ⟨rfl, (But.refl _ _ _).alloc _⟩
  have d5 : decide (f3 ≤ 4095) = true := decide_eq_true h5
  rcases (Decidable.em (BoxP f5 f6 f7 f8)).symm with h6 | h6
  · have d6 : decide (BoxP f5 f6 f7 f8) = false := decide_eq_false h6
    have hF : R = false := by rw [← HR.out]; exact decide_eq_false (fun hh => h6 (by (try simp only [ItemP, HeadP, BoxP, MeetP] at hh); (try simp only [ItemP, HeadP, BoxP, MeetP]); omega))
    subst hF
    have HX : Hid _ := h6
    clear h6
    go_enter Tryd.func28, Tryd.ntmps28
    repeat (first | (go_at_call 51; refine (istuff _ _).mono ?_; rintro e w3 ⟨rfl, hw3⟩; rw [hw3]; clear hw3 w3; (first | rw [d0] | rw [d1] | rw [d2] | rw [d3] | rw [d4] | rw [d5] | rw [d6]); dsimp only) | (go_at_call 40; refine (iarea _ _ _ _ _).mono ?_; rintro e w4 ⟨rfl, k4⟩; rw [d6]; dsimp only) | go_values | go_skip | go_guarded | go_step | go_upon)
    go_ret
    exact ⟨rfl, ((But.refl _ _ _).alloc _).trans k4⟩
  have d6 : decide (BoxP f5 f6 f7 f8) = true := decide_eq_true h6
  have hT : R = true := by rw [← HR.out]; exact decide_eq_true (by simp only [ItemP, HeadP, BoxP, MeetP] at *; omega)
  subst hT
  go_enter Tryd.func28, Tryd.ntmps28
  repeat (first | (go_at_call 51; refine (istuff _ _).mono ?_; rintro e w3 ⟨rfl, hw3⟩; rw [hw3]; clear hw3 w3; (first | rw [d0] | rw [d1] | rw [d2] | rw [d3] | rw [d4] | rw [d5] | rw [d6]); dsimp only) | (go_at_call 40; refine (iarea _ _ _ _ _).mono ?_; rintro e w4 ⟨rfl, k4⟩; rw [d6]; dsimp only) | go_values | go_skip | go_guarded | go_step | go_upon)
  go_ret
  exact ⟨rfl, ((But.refl _ _ _).alloc _).trans k4⟩

end Go.Proofs.YtoimpkhgdpkhkaaDoor
