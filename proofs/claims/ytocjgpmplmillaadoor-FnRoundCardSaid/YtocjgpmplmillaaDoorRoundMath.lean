/-
  Plain facts on the sines and cosines: they lie near the round, the sine of the other way is its opposite; each by going through all 4096 angles.
-/
import Derived.Test.YtocjgpmplmillaaDoorSin
namespace Go.Proofs.YtocjgpmplmillaaDoor
open Go.RowKit

theorem sinM_mod (a : Int) : sinM (a % 4096) = sinM a := by unfold sinM; rw [Int.emod_emod]
theorem cosM_mod (a : Int) : cosM (a % 4096) = cosM a := by unfold cosM; rw [Int.emod_emod]
theorem sinM_add (a : Int) : sinM (a + 4096) = sinM a := by unfold sinM; rw [show (a + 4096) % 4096 = a % 4096 from by omega]
theorem sinM_neg_mod (a : Int) : sinM (-(a % 4096)) = sinM (-a) := by unfold sinM; rw [show -(a % 4096) % 4096 = -a % 4096 from by omega]

def okAt (m : Nat) : Bool :=
  decide (-42949672 ≤ sinM m * sinM m + cosM m * cosM m - 4294967296) && decide (sinM m * sinM m + cosM m * cosM m - 4294967296 ≤ 42949672) && decide (sinM (-(m : Int)) = -sinM m)
theorem all_ok : (List.range 4096).all okAt = true := by decide +kernel
theorem ok_at (m : Nat) (h : m < 4096) : okAt m = true := List.all_eq_true.1 all_ok m (List.mem_range.2 h)

theorem round_near (a : Int) : -42949672 ≤ sinM a * sinM a + cosM a * cosM a - 4294967296 ∧ sinM a * sinM a + cosM a * cosM a - 4294967296 ≤ 42949672 := by
  obtain ⟨m, hm⟩ := Int.eq_ofNat_of_zero_le (show 0 ≤ a % 4096 by omega)
  have h := ok_at m (by omega)
  simp only [okAt, Bool.and_eq_true, decide_eq_true_eq] at h
  rw [← hm, sinM_mod, cosM_mod] at h
  exact h.1
theorem round_neg (a : Int) : sinM (-a) = -sinM a := by
  obtain ⟨m, hm⟩ := Int.eq_ofNat_of_zero_le (show 0 ≤ a % 4096 by omega)
  have h := ok_at m (by omega)
  simp only [okAt, Bool.and_eq_true, decide_eq_true_eq] at h
  rw [← hm, sinM_mod, sinM_neg_mod] at h
  exact h.2
end Go.Proofs.YtocjgpmplmillaaDoor
