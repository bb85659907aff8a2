/-
  A run that comes to an end may be cut in the middle of its time.
-/
import Derived.Test.YthihgjcnjgpegaaPieces
import Derived.Test.YthihgjcnjgpegaaMid
import Derived.Test.YthihgjcnjgpegaaRunA
namespace Go.Proofs.Ythihgjcnjgpegaa
open Go.ChangeShapes Go.WideShapes Go.ChangeAt Go.RowKit

theorem run_len {u : Int} : ∀ (f : Nat) (l l' : List TimerD) (fs : List FiredD), runM u f l = some (l', fs) → fs.length ≤ f
  | f, l, l', fs, h => by
    cases hk : pickM u l with
    | none =>
      rw [runM_none hk] at h
      cases h
      exact Nat.zero_le _
    | some k =>
      match f, h with
      | 0, h => rw [runM_full hk] at h; cases h
      | f + 1, h =>
        rw [runM_some hk] at h
        cases hr : runM u f (nextM l k) with
        | none => rw [hr] at h; cases h
        | some q =>
          rw [hr] at h
          simp at h
          obtain ⟨rfl, rfl⟩ := h
          have := run_len f (nextM l k) q.1 q.2 hr
          simp
          exact this
/-- The time half way. -/
def halfT (c : ClockD) (u : Int) : Int := c.1 + (u - c.1) / 2
theorem half_run (c : ClockD) (u : Int) (h : (runA c u).2.2 = true) : ∃ l' fs l1 a b, runA c u = ((u, l'), fs, true) ∧ runA c (halfT c u) = ((halfT c u, l1), a, true) ∧ runA (halfT c u, l1) u = ((u, l'), b, true) ∧ a ++ b = fs ∧ 0 ≤ c.1 ∧ c.1 ≤ u ∧ u ≤ 100000 ∧ fs.length ≤ 2000 ∧ l'.length ≤ 20 := by
  unfold runA at h
  split at h
  · rename_i hg
    simp only [Bool.and_eq_true, decide_eq_true_eq] at hg
    obtain ⟨⟨hg, h1⟩, h2⟩ := hg
    cases hr : runM u 2000 c.2 with
    | none => rw [hr] at h; cases h
    | some r =>
      obtain ⟨l', fs⟩ := r
      have h0 : 0 ≤ c.1 := by
        simp only [goodC, inB, Bool.and_eq_true, decide_eq_true_eq] at hg
        omega
      have hm1 : c.1 ≤ halfT c u := by unfold halfT; omega
      have hm2 : halfT c u ≤ u := by unfold halfT; omega
      obtain ⟨l1, a, b, e1, e2, e3⟩ := run_pieces hm2 2000 c.2 l' fs hr
      have hy := mid_good (now := c.1) hg hm1 (by omega) e1
      have hz := mid_good (now := c.1) hg h1 h2 hr
      refine ⟨l', fs, l1, a, b, ?_, ?_, ?_, e3, h0, h1, h2, run_len _ _ _ _ hr, ?_⟩
      · unfold runA
        rw [if_pos (by simp only [Bool.and_eq_true, decide_eq_true_eq]; exact ⟨⟨hg, h1⟩, h2⟩), hr]
        rfl
      · unfold runA
        rw [if_pos (by simp only [Bool.and_eq_true, decide_eq_true_eq]; exact ⟨⟨hg, hm1⟩, by omega⟩), e1]
        rfl
      · unfold runA
        rw [if_pos (by simp only [Bool.and_eq_true, decide_eq_true_eq]; exact ⟨⟨hy, hm2⟩, h2⟩), e2]
        rfl
      · simp only [goodC, Bool.and_eq_true, decide_eq_true_eq] at hz
        exact hz.1.2
  · cases h

end Go.Proofs.Ythihgjcnjgpegaa
