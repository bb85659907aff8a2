/-
  What RealOrder answers, in the program and in its specification: the same at every two floats.
-/
import Derived.Test.YthbhoppmdcfgeaaLeaf
namespace Go.Proofs.Ythbhoppmdcfgeaa
open Go.ChangeShapes Go.WideShapes Go.ChangeAt Go.RowKit Ieee

def orderM (a b : Nat) : Int :=
  if nanB a then (if nanB b then 0 else 1) else if nanB b then -1 else
  if FloatKind.f64.format.order a b == some .gt then 1 else if FloatKind.f64.format.order a b == some .lt then -1 else 0
theorem order_none (a b : Nat) (h : nanB b = true) : (FloatKind.f64.format.order a b == some .gt) = false := by
  have e : FloatKind.f64.format.order a b = (double.read a).order (double.read b) := rfl
  rcases read_cases b with ⟨n, f, hq, hy1, _⟩ | ⟨hq, hq2⟩ | ⟨t, hq, hq2⟩
  · simp [nanB] at h; omega
  · simp [nanB] at h; omega
  · rw [e, hq]; cases double.read a <;> rfl
theorem specOrder (a b : Nat) (w : World) : Calls Try.prog 37 #[.float .f64 a, .float .f64 b] w fun e w' => e = .returned (.int .i64 (orderM a b)) ∧ w' = w := by
  cases hx : nanB a <;> cases hy : nanB b
  · cases hg : (FloatKind.f64.format.order a b == some .gt) <;> cases hl : (FloatKind.f64.format.order a b == some .lt)
    all_goals
      go_enter Try.func37, Try.ntmps37
      go_wp2_with (go_at_call 51; refine (isNaN _ _).mono ?_; (first | rw [hx] | rw [hy]); rintro e w' ⟨rfl, rfl⟩)
      go_ret
      refine ⟨?_, rfl⟩
      first
        | (simp only [orderM, hx, hy, hg, hl]; rfl)
        | (exfalso; revert hg hl; rcases FloatKind.f64.format.order a b with _ | o <;> (try cases o) <;> simp)
  all_goals
    go_enter Try.func37, Try.ntmps37
    go_wp2_with (go_at_call 51; refine (isNaN _ _).mono ?_; (first | rw [hx] | rw [hy]); rintro e w' ⟨rfl, rfl⟩)
    go_ret
    exact ⟨by simp [orderM, hx, hy], rfl⟩
theorem implOrder (a b : Nat) (w : World) : Calls Try.prog 38 #[.float .f64 a, .float .f64 b] w fun e w' => e = .returned (.int .i64 (orderM a b)) ∧ w' = w := by
  cases hx : nanB a <;> cases hy : nanB b
  · cases hg : (FloatKind.f64.format.order a b == some .gt) <;> cases hl : (FloatKind.f64.format.order a b == some .lt)
    all_goals
      go_enter Try.func38, Try.ntmps38
      go_wp2_with (go_at_call 51; refine (isNaN _ _).mono ?_; (first | rw [hx] | rw [hy]); rintro e w' ⟨rfl, rfl⟩)
      go_ret
      refine ⟨?_, rfl⟩
      first
        | (simp only [orderM, hx, hy, hg, hl]; rfl)
        | (exfalso; revert hg hl; rcases FloatKind.f64.format.order a b with _ | o <;> (try cases o) <;> simp)
  · have hg := order_none a b hy
    go_enter Try.func38, Try.ntmps38
    go_wp2_with (go_at_call 51; refine (isNaN _ _).mono ?_; (first | rw [hx] | rw [hy]); rintro e w' ⟨rfl, rfl⟩)
    go_ret
    exact ⟨by simp [orderM, hx, hy], rfl⟩
  all_goals
    go_enter Try.func38, Try.ntmps38
    go_wp2_with (go_at_call 51; refine (isNaN _ _).mono ?_; (first | rw [hx] | rw [hy]); rintro e w' ⟨rfl, rfl⟩)
    go_ret
    exact ⟨by simp [orderM, hx, hy], rfl⟩
end Go.Proofs.Ythbhoppmdcfgeaa
