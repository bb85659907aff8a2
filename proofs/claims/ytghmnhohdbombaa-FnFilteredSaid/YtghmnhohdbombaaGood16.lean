/-
  Whether a filter and a memory are good: both sides.
-/
import Derived.Test.YtghmnhohdbombaaSt16
namespace Go.Proofs.Ytghmnhohdbombaa
open Go.ChangeShapes Go.WideShapes Go.ChangeAt Go.RowKit Ieee

theorem sgoodF (f0 f1 f2 f3 f4 : Nat) (hb0 : f0 < 18446744073709551616) (hb1 : f1 < 18446744073709551616) (hb2 : f2 < 18446744073709551616) (hb3 : f3 < 18446744073709551616) (hb4 : f4 < 18446744073709551616) (w : World) :
    Calls Try.prog 13 #[.agg #[.float .f64 f0, .float .f64 f1, .float .f64 f2, .float .f64 f3, .float .f64 f4]] w fun e w' => e = .returned (.bool (good f0 && good f1 && good f2 && good f3 && good f4)) ∧ Kept w w' := by
  cases h0 : good f0 with
  | false =>
    go_enter Try.func13, Try.ntmps13
    go_wp2_with (first | (go_at_call 48; refine (specGood _ (by assumption) _).mono ?_; (first | rw [h0]); rintro e w' ⟨rfl, rfl⟩))
    go_ret
    exact ⟨by simp [*], (But.refl _ _ _).alloc _⟩
  | true =>
    cases h1 : good f1 with
    | false =>
      go_enter Try.func13, Try.ntmps13
      go_wp2_with (first | (go_at_call 48; refine (specGood _ (by assumption) _).mono ?_; (first | rw [h0] | rw [h1]); rintro e w' ⟨rfl, rfl⟩))
      go_ret
      exact ⟨by simp [*], (But.refl _ _ _).alloc _⟩
    | true =>
      cases h2 : good f2 with
      | false =>
        go_enter Try.func13, Try.ntmps13
        go_wp2_with (first | (go_at_call 48; refine (specGood _ (by assumption) _).mono ?_; (first | rw [h0] | rw [h1] | rw [h2]); rintro e w' ⟨rfl, rfl⟩))
        go_ret
        exact ⟨by simp [*], (But.refl _ _ _).alloc _⟩
      | true =>
        cases h3 : good f3 with
        | false =>
          go_enter Try.func13, Try.ntmps13
          go_wp2_with (first | (go_at_call 48; refine (specGood _ (by assumption) _).mono ?_; (first | rw [h0] | rw [h1] | rw [h2] | rw [h3]); rintro e w' ⟨rfl, rfl⟩))
          go_ret
          exact ⟨by simp [*], (But.refl _ _ _).alloc _⟩
        | true =>
          cases h4 : good f4 with
          | false =>
            go_enter Try.func13, Try.ntmps13
            go_wp2_with (first | (go_at_call 48; refine (specGood _ (by assumption) _).mono ?_; (first | rw [h0] | rw [h1] | rw [h2] | rw [h3] | rw [h4]); rintro e w' ⟨rfl, rfl⟩))
            go_ret
            exact ⟨by simp [*], (But.refl _ _ _).alloc _⟩
          | true =>
            go_enter Try.func13, Try.ntmps13
            go_wp2_with (first | (go_at_call 48; refine (specGood _ (by assumption) _).mono ?_; (first | rw [h0] | rw [h1] | rw [h2] | rw [h3] | rw [h4]); rintro e w' ⟨rfl, rfl⟩))
            go_ret
            exact ⟨by simp [*], (But.refl _ _ _).alloc _⟩

theorem igoodF (f0 f1 f2 f3 f4 : Nat) (hb0 : f0 < 18446744073709551616) (hb1 : f1 < 18446744073709551616) (hb2 : f2 < 18446744073709551616) (hb3 : f3 < 18446744073709551616) (hb4 : f4 < 18446744073709551616) (w : World) :
    Calls Try.prog 15 #[.agg #[.float .f64 f0, .float .f64 f1, .float .f64 f2, .float .f64 f3, .float .f64 f4]] w fun e w' => e = .returned (.bool (good f0 && good f1 && good f2 && good f3 && good f4)) ∧ Kept w w' := by
  cases h0 : good f0 with
  | false =>
    go_enter Try.func15, Try.ntmps15
    go_wp2_with (first | (go_at_call 52; refine (implGood _ (by assumption) _).mono ?_; (first | rw [h0]); rintro e w' ⟨rfl, rfl⟩))
    go_ret
    exact ⟨by simp [*], (But.refl _ _ _).alloc _⟩
  | true =>
    cases h1 : good f1 with
    | false =>
      go_enter Try.func15, Try.ntmps15
      go_wp2_with (first | (go_at_call 52; refine (implGood _ (by assumption) _).mono ?_; (first | rw [h0] | rw [h1]); rintro e w' ⟨rfl, rfl⟩))
      go_ret
      exact ⟨by simp [*], (But.refl _ _ _).alloc _⟩
    | true =>
      cases h2 : good f2 with
      | false =>
        go_enter Try.func15, Try.ntmps15
        go_wp2_with (first | (go_at_call 52; refine (implGood _ (by assumption) _).mono ?_; (first | rw [h0] | rw [h1] | rw [h2]); rintro e w' ⟨rfl, rfl⟩))
        go_ret
        exact ⟨by simp [*], (But.refl _ _ _).alloc _⟩
      | true =>
        cases h3 : good f3 with
        | false =>
          go_enter Try.func15, Try.ntmps15
          go_wp2_with (first | (go_at_call 52; refine (implGood _ (by assumption) _).mono ?_; (first | rw [h0] | rw [h1] | rw [h2] | rw [h3]); rintro e w' ⟨rfl, rfl⟩))
          go_ret
          exact ⟨by simp [*], (But.refl _ _ _).alloc _⟩
        | true =>
          cases h4 : good f4 with
          | false =>
            go_enter Try.func15, Try.ntmps15
            go_wp2_with (first | (go_at_call 52; refine (implGood _ (by assumption) _).mono ?_; (first | rw [h0] | rw [h1] | rw [h2] | rw [h3] | rw [h4]); rintro e w' ⟨rfl, rfl⟩))
            go_ret
            exact ⟨by simp [*], (But.refl _ _ _).alloc _⟩
          | true =>
            go_enter Try.func15, Try.ntmps15
            go_wp2_with (first | (go_at_call 52; refine (implGood _ (by assumption) _).mono ?_; (first | rw [h0] | rw [h1] | rw [h2] | rw [h3] | rw [h4]); rintro e w' ⟨rfl, rfl⟩))
            go_ret
            exact ⟨by simp [*], (But.refl _ _ _).alloc _⟩

theorem igoodM (f0 f1 : Nat) (hb0 : f0 < 18446744073709551616) (hb1 : f1 < 18446744073709551616) (w : World) :
    Calls Try.prog 45 #[.agg #[.float .f64 f0, .float .f64 f1]] w fun e w' => e = .returned (.bool (good f0 && good f1)) ∧ Kept w w' := by
  cases h0 : good f0 with
  | false =>
    go_enter Try.func45, Try.ntmps45
    go_wp2_with (first | (go_at_call 52; refine (implGood _ (by assumption) _).mono ?_; (first | rw [h0]); rintro e w' ⟨rfl, rfl⟩))
    go_ret
    exact ⟨by simp [*], (But.refl _ _ _).alloc _⟩
  | true =>
    cases h1 : good f1 with
    | false =>
      go_enter Try.func45, Try.ntmps45
      go_wp2_with (first | (go_at_call 52; refine (implGood _ (by assumption) _).mono ?_; (first | rw [h0] | rw [h1]); rintro e w' ⟨rfl, rfl⟩))
      go_ret
      exact ⟨by simp [*], (But.refl _ _ _).alloc _⟩
    | true =>
      go_enter Try.func45, Try.ntmps45
      go_wp2_with (first | (go_at_call 52; refine (implGood _ (by assumption) _).mono ?_; (first | rw [h0] | rw [h1]); rintro e w' ⟨rfl, rfl⟩))
      go_ret
      exact ⟨by simp [*], (But.refl _ _ _).alloc _⟩

end Go.Proofs.Ytghmnhohdbombaa
