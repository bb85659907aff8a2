/-
  A run cut in two is the run.
-/
import Derived.Test.YthihgjcnjgpegaaRunM
namespace Go.Proofs.Ythihgjcnjgpegaa
open Go.ChangeShapes Go.WideShapes Go.ChangeAt Go.RowKit

/-- Who is picked up to a time is picked up to any later one. -/
theorem pick_later {u m : Int} {l : List TimerD} {k : Nat} (hm : m ≤ u) (h : pickM m l = some k) : pickM u l = some k := by
  obtain ⟨a1, a2, a3⟩ := pickTo_some h
  cases hk : pickM u l with
  | none =>
    have := pickTo_none hk k a1
    omega
  | some j =>
    obtain ⟨b1, b2, b3⟩ := pickTo_some hk
    have h1 := b3 k a1 (by omega)
    have h2 := a3 j b1 (by omega)
    have : j = k := by omega
    rw [this]
/-- A run with more firings left gives the same, if it came to an end. -/
theorem run_more {u : Int} : ∀ (f : Nat) (l : List TimerD) (r : List TimerD × List FiredD) (g : Nat), runM u f l = some r → f ≤ g → runM u g l = some r
  | f, l, r, g, h, hg => by
    cases hk : pickM u l with
    | none => rw [runM_none hk] at h ⊢; exact h
    | some k =>
      match f, g, hg, h with
      | 0, _, _, h => rw [runM_full hk] at h; cases h
      | f + 1, g + 1, hg, h =>
        rw [runM_some hk] at h ⊢
        cases hr : runM u f (nextM l k) with
        | none => rw [hr] at h; cases h
        | some q =>
          rw [run_more f (nextM l k) q g hr (by omega)]
          rw [hr] at h
          exact h
/-- A run to a time on the way, and then on, is the run. -/
theorem run_pieces {u m : Int} (hm : m ≤ u) : ∀ (f : Nat) (l l' : List TimerD) (fs : List FiredD), runM u f l = some (l', fs) → ∃ l1 a b, runM m f l = some (l1, a) ∧ runM u f l1 = some (l', b) ∧ a ++ b = fs
  | f, l, l', fs, h => by
    cases hk : pickM m l with
    | none => exact ⟨l, [], fs, runM_none hk f, h, rfl⟩
    | some k =>
      have hku := pick_later hm hk
      match f, h with
      | 0, h => rw [runM_full hku] at h; cases h
      | f + 1, h =>
        rw [runM_some hku] at h
        cases hr : runM u f (nextM l k) with
        | none => rw [hr] at h; cases h
        | some q =>
          rw [hr] at h
          simp at h
          obtain ⟨rfl, rfl⟩ := h
          obtain ⟨l1, a, b, h1, h2, h3⟩ := run_pieces hm f (nextM l k) q.1 q.2 hr
          refine ⟨l1, ((atT l k).2.1, (atT l k).1) :: a, b, ?_, run_more f l1 _ (f + 1) h2 (by omega), by rw [← h3]; rfl⟩
          rw [runM_some hk, h1]
          rfl

end Go.Proofs.Ythihgjcnjgpegaa
