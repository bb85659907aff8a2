/-
  Small tests of chapter 20, on both sides.
-/
import Derived.Test.YtoimpkhgdpkhkaaDoorRows
import Derived.Test.YtoimpkhgdpkhkaaDoorItem
import Derived.Test.YtoimpkhgdpkhkaaDoorQuiet
import Derived.WalkKit
import Derived.ProofKit
import Derived.OpenShut
import Derived.Handy
namespace Go.Proofs.YtoimpkhgdpkhkaaDoor
open Go.ChangeShapes Go.WideShapes Go.ChangeAt Go.RowKit

set_option maxRecDepth 100000
set_option linter.unusedVariables false
set_option linter.unusedSimpArgs false

abbrev BoxP (x y a b : Int) : Prop := (-10000 ≤ x ∧ x ≤ 10000) ∧ (-10000 ≤ y ∧ y ≤ 10000) ∧ (0 ≤ a ∧ a ≤ 10000) ∧ (0 ≤ b ∧ b ≤ 10000)
abbrev HeadP (f0 f1 f2 f3 : Int) : Prop := (0 ≤ f0 ∧ f0 ≤ 7) ∧ (0 ≤ f1 ∧ f1 ≤ 255) ∧ (0 ≤ f2 ∧ f2 ≤ 255) ∧ (0 ≤ f3 ∧ f3 ≤ 4095)
abbrev ItemP (p : ItemD) : Prop := HeadP p.1 p.2.1 p.2.2.1 p.2.2.2.1 ∧ BoxP p.2.2.2.2.2.1 p.2.2.2.2.2.2.1 p.2.2.2.2.2.2.2.1 p.2.2.2.2.2.2.2.2
abbrev MeetP (x y a b x' y' a' b' : Int) : Prop := 0 < a ∧ 0 < b ∧ 0 < a' ∧ 0 < b' ∧ x < x' + a' ∧ x' < x + a ∧ y < y' + b' ∧ y' < y + b
theorem ret_intG {a b : Int} (h : a = b) : Ending.returned (.int .i64 a) = .returned (.int .i64 b) := by rw [h]
theorem ret_boolG {a b : Bool} (h : a = b) : Ending.returned (.bool a) = .returned (.bool b) := by rw [h]

theorem sInG (x lo hi : Int) (w : World) : Calls Tryd.prog 44 #[.int .i64 x, .int .i64 lo, .int .i64 hi] w fun e w' => e = .returned (.bool (decide (lo ≤ x ∧ x ≤ hi))) ∧ w' = w := by
  go_enter Tryd.func44, Tryd.ntmps44
  go_wp2
  all_goals
    go_ret
    exact ⟨ret_boolG (by first | (rw [Bool.eq_iff_iff]; simp; omega) | (simp; omega)), rfl⟩

theorem istuff (x : Int) (w : World) : Calls Tryd.prog 51 #[.int .i64 x] w fun e w' => e = .returned (.bool (decide (0 ≤ x ∧ x ≤ 255))) ∧ w' = w := by
  go_enter Tryd.func51, Tryd.ntmps51
  go_wp2
  all_goals
    go_ret
    exact ⟨ret_boolG (by first | (rw [Bool.eq_iff_iff]; simp; omega) | (simp; omega)), rfl⟩

theorem iplace (x : Int) (w : World) : Calls Tryd.prog 61 #[.int .i64 x] w fun e w' => e = .returned (.bool (decide (-10000 ≤ x ∧ x ≤ 10000))) ∧ w' = w := by
  go_enter Tryd.func61, Tryd.ntmps61
  go_wp2
  all_goals
    go_ret
    exact ⟨ret_boolG (by first | (rw [Bool.eq_iff_iff]; simp; omega) | (simp; omega)), rfl⟩

theorem iroom (x : Int) (w : World) : Calls Tryd.prog 62 #[.int .i64 x] w fun e w' => e = .returned (.bool (decide (0 ≤ x ∧ x ≤ 10000))) ∧ w' = w := by
  go_enter Tryd.func62, Tryd.ntmps62
  go_wp2
  all_goals
    go_ret
    exact ⟨ret_boolG (by first | (rw [Bool.eq_iff_iff]; simp; omega) | (simp; omega)), rfl⟩

set_option maxHeartbeats 4000000 in
theorem sbox (x y a b : Int) (w : World) : Calls Tryd.prog 42 #[.agg #[.int .i64 x, .int .i64 y, .int .i64 a, .int .i64 b]] w fun e w' => e = .returned (.bool (decide (BoxP x y a b))) ∧ Kept w w' := by
  obtain ⟨R, hR⟩ : ∃ R : Bool, decide (BoxP x y a b) = R := ⟨_, rfl⟩
  rw [hR]
  have HR : Hid (decide (BoxP x y a b) = R) := hR
  clear hR
  rcases (Decidable.em (-10000 ≤ x ∧ x ≤ 10000)).symm with h0 | h0
  · have d0 : decide (-10000 ≤ x ∧ x ≤ 10000) = false := decide_eq_false h0
    have hF : R = false := by rw [← HR.out]; exact decide_eq_false (fun hh => h0 (by (try simp only [ItemP, HeadP, BoxP, MeetP] at hh); (try simp only [ItemP, HeadP, BoxP, MeetP]); omega))
    subst hF
    have HX : Hid _ := h0
    clear h0
    go_enter Tryd.func42, Tryd.ntmps42
    repeat (first | (go_at_call 44; refine (sInG _ _ _ _).mono ?_; rintro e w3 ⟨rfl, hw3⟩; rw [hw3]; clear hw3 w3; (first | rw [d0]); dsimp only) | go_values | go_skip | go_guarded | go_step | go_upon)
    go_ret
    exact ⟨rfl, (But.refl _ _ _).alloc _⟩
  have d0 : decide (-10000 ≤ x ∧ x ≤ 10000) = true := decide_eq_true h0
  rcases (Decidable.em (-10000 ≤ y ∧ y ≤ 10000)).symm with h1 | h1
  · have d1 : decide (-10000 ≤ y ∧ y ≤ 10000) = false := decide_eq_false h1
    have hF : R = false := by rw [← HR.out]; exact decide_eq_false (fun hh => h1 (by (try simp only [ItemP, HeadP, BoxP, MeetP] at hh); (try simp only [ItemP, HeadP, BoxP, MeetP]); omega))
    subst hF
    have HX : Hid _ := h1
    clear h1
    go_enter Tryd.func42, Tryd.ntmps42
    repeat (first | (go_at_call 44; refine (sInG _ _ _ _).mono ?_; rintro e w3 ⟨rfl, hw3⟩; rw [hw3]; clear hw3 w3; (first | rw [d0] | rw [d1]); dsimp only) | go_values | go_skip | go_guarded | go_step | go_upon)
    go_ret
    exact ⟨rfl, (But.refl _ _ _).alloc _⟩
  have d1 : decide (-10000 ≤ y ∧ y ≤ 10000) = true := decide_eq_true h1
  rcases (Decidable.em (0 ≤ a ∧ a ≤ 10000)).symm with h2 | h2
  · have d2 : decide (0 ≤ a ∧ a ≤ 10000) = false := decide_eq_false h2
    have hF : R = false := by rw [← HR.out]; exact decide_eq_false (fun hh => h2 (by (try simp only [ItemP, HeadP, BoxP, MeetP] at hh); (try simp only [ItemP, HeadP, BoxP, MeetP]); omega))
    subst hF
    have HX : Hid _ := h2
    clear h2
    go_enter Tryd.func42, Tryd.ntmps42
    repeat (first | (go_at_call 44; refine (sInG _ _ _ _).mono ?_; rintro e w3 ⟨rfl, hw3⟩; rw [hw3]; clear hw3 w3; (first | rw [d0] | rw [d1] | rw [d2]); dsimp only) | go_values | go_skip | go_guarded | go_step | go_upon)
    go_ret
    exact ⟨rfl, (But.refl _ _ _).alloc _⟩
  have d2 : decide (0 ≤ a ∧ a ≤ 10000) = true := decide_eq_true h2
  rcases (Decidable.em (0 ≤ b ∧ b ≤ 10000)).symm with h3 | h3
  · have d3 : decide (0 ≤ b ∧ b ≤ 10000) = false := decide_eq_false h3
    have hF : R = false := by rw [← HR.out]; exact decide_eq_false (fun hh => h3 (by (try simp only [ItemP, HeadP, BoxP, MeetP] at hh); (try simp only [ItemP, HeadP, BoxP, MeetP]); omega))
    subst hF
    have HX : Hid _ := h3
    clear h3
    go_enter Tryd.func42, Tryd.ntmps42
    repeat (first | (go_at_call 44; refine (sInG _ _ _ _).mono ?_; rintro e w3 ⟨rfl, hw3⟩; rw [hw3]; clear hw3 w3; (first | rw [d0] | rw [d1] | rw [d2] | rw [d3]); dsimp only) | go_values | go_skip | go_guarded | go_step | go_upon)
    go_ret
    exact ⟨rfl, (But.refl _ _ _).alloc _⟩
  have d3 : decide (0 ≤ b ∧ b ≤ 10000) = true := decide_eq_true h3
  have hT : R = true := by rw [← HR.out]; exact decide_eq_true (by simp only [ItemP, HeadP, BoxP, MeetP] at *; omega)
  subst hT
  go_enter Tryd.func42, Tryd.ntmps42
  repeat (first | (go_at_call 44; refine (sInG _ _ _ _).mono ?_; rintro e w3 ⟨rfl, hw3⟩; rw [hw3]; clear hw3 w3; (first | rw [d0] | rw [d1] | rw [d2] | rw [d3]); dsimp only) | go_values | go_skip | go_guarded | go_step | go_upon)
  go_ret
  exact ⟨rfl, (But.refl _ _ _).alloc _⟩

set_option maxHeartbeats 4000000 in
theorem iarea (x y a b : Int) (w : World) : Calls Tryd.prog 40 #[.agg #[.int .i64 x, .int .i64 y, .int .i64 a, .int .i64 b]] w fun e w' => e = .returned (.bool (decide (BoxP x y a b))) ∧ Kept w w' := by
  obtain ⟨R, hR⟩ : ∃ R : Bool, decide (BoxP x y a b) = R := ⟨_, rfl⟩
  rw [hR]
  have HR : Hid (decide (BoxP x y a b) = R) := hR
  clear hR
  rcases (Decidable.em (-10000 ≤ x ∧ x ≤ 10000)).symm with h0 | h0
  · have d0 : decide (-10000 ≤ x ∧ x ≤ 10000) = false := decide_eq_false h0
    have hF : R = false := by rw [← HR.out]; exact decide_eq_false (fun hh => h0 (by (try simp only [ItemP, HeadP, BoxP, MeetP] at hh); (try simp only [ItemP, HeadP, BoxP, MeetP]); omega))
    subst hF
    have HX : Hid _ := h0
    clear h0
    go_enter Tryd.func40, Tryd.ntmps40
    repeat (first | (go_at_call 61; refine (iplace _ _).mono ?_; rintro e w3 ⟨rfl, hw3⟩; rw [hw3]; clear hw3 w3; (first | rw [d0]); dsimp only) | (go_at_call 62; refine (iroom _ _).mono ?_; rintro e w3 ⟨rfl, hw3⟩; rw [hw3]; clear hw3 w3; (first | rw [d0]); dsimp only) | go_values | go_skip | go_guarded | go_step | go_upon)
    go_ret
    exact ⟨rfl, (But.refl _ _ _).alloc _⟩
  have d0 : decide (-10000 ≤ x ∧ x ≤ 10000) = true := decide_eq_true h0
  rcases (Decidable.em (-10000 ≤ y ∧ y ≤ 10000)).symm with h1 | h1
  · have d1 : decide (-10000 ≤ y ∧ y ≤ 10000) = false := decide_eq_false h1
    have hF : R = false := by rw [← HR.out]; exact decide_eq_false (fun hh => h1 (by (try simp only [ItemP, HeadP, BoxP, MeetP] at hh); (try simp only [ItemP, HeadP, BoxP, MeetP]); omega))
    subst hF
    have HX : Hid _ := h1
    clear h1
    go_enter Tryd.func40, Tryd.ntmps40
    repeat (first | (go_at_call 61; refine (iplace _ _).mono ?_; rintro e w3 ⟨rfl, hw3⟩; rw [hw3]; clear hw3 w3; (first | rw [d0] | rw [d1]); dsimp only) | (go_at_call 62; refine (iroom _ _).mono ?_; rintro e w3 ⟨rfl, hw3⟩; rw [hw3]; clear hw3 w3; (first | rw [d0] | rw [d1]); dsimp only) | go_values | go_skip | go_guarded | go_step | go_upon)
    go_ret
    exact ⟨rfl, (But.refl _ _ _).alloc _⟩
  have d1 : decide (-10000 ≤ y ∧ y ≤ 10000) = true := decide_eq_true h1
  rcases (Decidable.em (0 ≤ a ∧ a ≤ 10000)).symm with h2 | h2
  · have d2 : decide (0 ≤ a ∧ a ≤ 10000) = false := decide_eq_false h2
    have hF : R = false := by rw [← HR.out]; exact decide_eq_false (fun hh => h2 (by (try simp only [ItemP, HeadP, BoxP, MeetP] at hh); (try simp only [ItemP, HeadP, BoxP, MeetP]); omega))
    subst hF
    have HX : Hid _ := h2
    clear h2
    go_enter Tryd.func40, Tryd.ntmps40
    repeat (first | (go_at_call 61; refine (iplace _ _).mono ?_; rintro e w3 ⟨rfl, hw3⟩; rw [hw3]; clear hw3 w3; (first | rw [d0] | rw [d1] | rw [d2]); dsimp only) | (go_at_call 62; refine (iroom _ _).mono ?_; rintro e w3 ⟨rfl, hw3⟩; rw [hw3]; clear hw3 w3; (first | rw [d0] | rw [d1] | rw [d2]); dsimp only) | go_values | go_skip | go_guarded | go_step | go_upon)
    go_ret
    exact ⟨rfl, (But.refl _ _ _).alloc _⟩
  have d2 : decide (0 ≤ a ∧ a ≤ 10000) = true := decide_eq_true h2
  rcases (Decidable.em (0 ≤ b ∧ b ≤ 10000)).symm with h3 | h3
  · have d3 : decide (0 ≤ b ∧ b ≤ 10000) = false := decide_eq_false h3
    have hF : R = false := by rw [← HR.out]; exact decide_eq_false (fun hh => h3 (by (try simp only [ItemP, HeadP, BoxP, MeetP] at hh); (try simp only [ItemP, HeadP, BoxP, MeetP]); omega))
    subst hF
    have HX : Hid _ := h3
    clear h3
    go_enter Tryd.func40, Tryd.ntmps40
    repeat (first | (go_at_call 61; refine (iplace _ _).mono ?_; rintro e w3 ⟨rfl, hw3⟩; rw [hw3]; clear hw3 w3; (first | rw [d0] | rw [d1] | rw [d2] | rw [d3]); dsimp only) | (go_at_call 62; refine (iroom _ _).mono ?_; rintro e w3 ⟨rfl, hw3⟩; rw [hw3]; clear hw3 w3; (first | rw [d0] | rw [d1] | rw [d2] | rw [d3]); dsimp only) | go_values | go_skip | go_guarded | go_step | go_upon)
    go_ret
    exact ⟨rfl, (But.refl _ _ _).alloc _⟩
  have d3 : decide (0 ≤ b ∧ b ≤ 10000) = true := decide_eq_true h3
  have hT : R = true := by rw [← HR.out]; exact decide_eq_true (by simp only [ItemP, HeadP, BoxP, MeetP] at *; omega)
  subst hT
  go_enter Tryd.func40, Tryd.ntmps40
  repeat (first | (go_at_call 61; refine (iplace _ _).mono ?_; rintro e w3 ⟨rfl, hw3⟩; rw [hw3]; clear hw3 w3; (first | rw [d0] | rw [d1] | rw [d2] | rw [d3]); dsimp only) | (go_at_call 62; refine (iroom _ _).mono ?_; rintro e w3 ⟨rfl, hw3⟩; rw [hw3]; clear hw3 w3; (first | rw [d0] | rw [d1] | rw [d2] | rw [d3]); dsimp only) | go_values | go_skip | go_guarded | go_step | go_upon)
  go_ret
  exact ⟨rfl, (But.refl _ _ _).alloc _⟩

end Go.Proofs.YtoimpkhgdpkhkaaDoor
