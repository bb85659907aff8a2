/-
  The power of a turn: both sides.
-/
import Derived.Test.YtghmnhohdbombaaGood16
import Derived.Test.YtghmnhohdbombaaInf16
namespace Go.Proofs.Ytghmnhohdbombaa
open Go.ChangeShapes Go.WideShapes Go.ChangeAt Go.RowKit Ieee

def powO (a b : Nat) : Option Nat := opN .add (opN .mul (nrm a) (nrm a)) (opN .mul (nrm b) (nrm b))
def powM (a b : Nat) : Nat × Bool := if (good a && good b) && finO (powO a b) then (plainO (powO a b), true) else (0, false)
theorem pow_plain (a b : Nat) : Plain (powO a b) := opN_plain (fun _ h => (opN_lt h).1) (square_plain a)
/-- A float that stands for what is told, up to which NaN. -/
theorem out_plain {r : Nat} {o : Option Nat} (hn : nrm r = o) (hf : finO o = true) : plainO o = plain r := by
  rw [← hn, finO_nrm] at hf
  rw [← hn, nrm_fin hf]
  rfl
theorem out_same {r : Nat} {o : Option Nat} (hn : nrm r = o) (hf : finO o = true) (hr : r < 18446744073709551616) (hp : Plain o) : plainO o = r := by
  rw [out_plain hn hf]
  rw [← hn, finO_nrm] at hf
  exact plain_same hr (hp r (by rw [← hn, nrm_fin hf]))

set_option maxHeartbeats 1000000 in
theorem ipow (a b : Nat) (ha : a < 18446744073709551616) (hb : b < 18446744073709551616) (w : World) :
    Calls Try.prog 29 #[.agg #[.float .f64 a, .float .f64 b]] w fun e w' => e = .returned (.tuple #[.float .f64 (powM a b).1, .bool (powM a b).2]) ∧ Kept w w' := by
  cases hg : (good a && good b) with
  | false =>
    have hp : powM a b = (0, false) := by unfold powM; rw [hg]; rfl
    rw [hp]
    cases hx : finO (powO a b)
    all_goals
      unfold powO at hx
      go_enter Try.func29, Try.ntmps29
      go_wp2_with (first | (go_at_call 59; refine (goodTurn _ _ (by assumption) (by assumption) _).mono ?_; rintro e w' ⟨rfl, rfl⟩; rw [hg]) | (go_at_call 60; refine (isFinite _ (fop_lt _ _ _ _) _).mono ?_; rintro e w' ⟨rfl, rfl⟩; rw [← finO_nrm]; simp only [nrm_fop]; rw [hx]))
      go_returns
      exact ⟨rfl, by (repeat (first | with_reducible exact But.refl _ _ _ | with_reducible apply But.drewN | with_reducible apply But.drew | with_reducible apply But.alloc))⟩
  | true =>
    cases hx : finO (powO a b) with
    | false =>
      have hp : powM a b = (0, false) := by unfold powM; rw [hg, hx]; rfl
      rw [hp]
      unfold powO at hx
      go_enter Try.func29, Try.ntmps29
      go_wp2_with (first | (go_at_call 59; refine (goodTurn _ _ (by assumption) (by assumption) _).mono ?_; rintro e w' ⟨rfl, rfl⟩; rw [hg]) | (go_at_call 60; refine (isFinite _ (fop_lt _ _ _ _) _).mono ?_; rintro e w' ⟨rfl, rfl⟩; rw [← finO_nrm]; simp only [nrm_fop]; rw [hx]))
      go_returns
      exact ⟨rfl, by (repeat (first | with_reducible exact But.refl _ _ _ | with_reducible apply But.drewN | with_reducible apply But.drew | with_reducible apply But.alloc))⟩
    | true =>
      have hp : powM a b = (plainO (powO a b), true) := by unfold powM; rw [hg, hx]; rfl
      rw [hp]
      have hy := hx
      unfold powO at hx
      go_enter Try.func29, Try.ntmps29
      go_wp2_with (first | (go_at_call 59; refine (goodTurn _ _ (by assumption) (by assumption) _).mono ?_; rintro e w' ⟨rfl, rfl⟩; rw [hg]) | (go_at_call 60; refine (isFinite _ (fop_lt _ _ _ _) _).mono ?_; rintro e w' ⟨rfl, rfl⟩; rw [← finO_nrm]; simp only [nrm_fop]; rw [hx]))
      go_returns
      refine ⟨?_, by (repeat (first | with_reducible exact But.refl _ _ _ | with_reducible apply But.drewN | with_reducible apply But.drew | with_reducible apply But.alloc))⟩
      exact congrArg (fun r => Ending.returned (.tuple #[.float .f64 r, .bool true])) (out_same (by simp only [nrm_fop]; rfl) hy (fop_lt _ _ _ _) (pow_plain a b)).symm

set_option maxHeartbeats 1000000 in
theorem spow (a b : Nat) (ha : a < 18446744073709551616) (hb : b < 18446744073709551616) (w : World) :
    Calls Try.prog 27 #[.agg #[.float .f64 a, .float .f64 b]] w fun e w' => e = .returned (.tuple #[.float .f64 (powM a b).1, .bool (powM a b).2]) ∧ Kept w w' := by
  cases hg : (good a && good b) with
  | false =>
    have hp : powM a b = (0, false) := by unfold powM; rw [hg]; rfl
    rw [hp]
    cases hx : finO (powO a b)
    all_goals
      unfold powO at hx
      go_enter Try.func27, Try.ntmps27
      go_wp2_with (first | (go_at_call 58; refine (l2Good _ _ (by assumption) (by assumption) _).mono ?_; rintro e w' ⟨rfl, rfl⟩; rw [hg]) | (go_at_call 51; refine (l2Plain _ _).mono ?_; rintro e w' ⟨rfl, rfl⟩) | (go_at_call 50; refine (l2Finite _ (fop_lt _ _ _ _) _).mono ?_; rintro e w' ⟨rfl, rfl⟩; rw [← finO_nrm]; simp only [nrm_fop]; rw [hx]))
      go_returns
      exact ⟨rfl, by (repeat (first | with_reducible exact But.refl _ _ _ | with_reducible apply But.drewN | with_reducible apply But.drew | with_reducible apply But.alloc))⟩
  | true =>
    cases hx : finO (powO a b) with
    | false =>
      have hp : powM a b = (0, false) := by unfold powM; rw [hg, hx]; rfl
      rw [hp]
      unfold powO at hx
      go_enter Try.func27, Try.ntmps27
      go_wp2_with (first | (go_at_call 58; refine (l2Good _ _ (by assumption) (by assumption) _).mono ?_; rintro e w' ⟨rfl, rfl⟩; rw [hg]) | (go_at_call 51; refine (l2Plain _ _).mono ?_; rintro e w' ⟨rfl, rfl⟩) | (go_at_call 50; refine (l2Finite _ (fop_lt _ _ _ _) _).mono ?_; rintro e w' ⟨rfl, rfl⟩; rw [← finO_nrm]; simp only [nrm_fop]; rw [hx]))
      go_returns
      exact ⟨rfl, by (repeat (first | with_reducible exact But.refl _ _ _ | with_reducible apply But.drewN | with_reducible apply But.drew | with_reducible apply But.alloc))⟩
    | true =>
      have hp : powM a b = (plainO (powO a b), true) := by unfold powM; rw [hg, hx]; rfl
      rw [hp]
      have hy := hx
      unfold powO at hx
      go_enter Try.func27, Try.ntmps27
      go_wp2_with (first | (go_at_call 58; refine (l2Good _ _ (by assumption) (by assumption) _).mono ?_; rintro e w' ⟨rfl, rfl⟩; rw [hg]) | (go_at_call 51; refine (l2Plain _ _).mono ?_; rintro e w' ⟨rfl, rfl⟩) | (go_at_call 50; refine (l2Finite _ (fop_lt _ _ _ _) _).mono ?_; rintro e w' ⟨rfl, rfl⟩; rw [← finO_nrm]; simp only [nrm_fop]; rw [hx]))
      go_returns
      refine ⟨?_, by (repeat (first | with_reducible exact But.refl _ _ _ | with_reducible apply But.drewN | with_reducible apply But.drew | with_reducible apply But.alloc))⟩
      exact congrArg (fun r => Ending.returned (.tuple #[.float .f64 r, .bool true])) (out_plain (by simp only [nrm_fop]; rfl) hy).symm

end Go.Proofs.Ytghmnhohdbombaa
