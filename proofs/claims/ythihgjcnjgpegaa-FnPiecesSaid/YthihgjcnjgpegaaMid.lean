/-
  The clock on the way of a run is good.
-/
import Derived.Test.YthihgjcnjgpegaaPieces
import Derived.Test.YthihgjcnjgpegaaRunA
namespace Go.Proofs.Ythihgjcnjgpegaa
open Go.ChangeShapes Go.WideShapes Go.ChangeAt Go.RowKit

/-- What every timer of a good clock keeps on its way. -/
def GT (t : TimerD) : Prop := TB t ∧ 0 ≤ t.1 ∧ t.1 ≤ 999 ∧ (t.2.2.1 = 0 → t.2.2.2 = 1)
theorem next_GT {u : Int} {l : List TimerD} {k : Nat} (hu : u ≤ 100000) (hk : k < l.length) (hb : ∀ t ∈ l, GT t) (hku : (atT l k).2.1 ≤ u) : ∀ t ∈ nextM l k, GT t := by
  intro t ht
  unfold nextM at ht
  split at ht
  · rename_i hc
    simp only [Bool.and_eq_true, decide_eq_true_eq] at hc
    rcases List.mem_or_eq_of_mem_set ht with h | rfl
    · exact hb t h
    · have := hb _ (at_mem hk)
      unfold GT TB at *
      dsimp only
      omega
  · exact hb t (List.mem_of_mem_eraseIdx ht)
theorem run_end {u : Int} (hu : u ≤ 100000) : ∀ (f : Nat) (l l' : List TimerD) (fs : List FiredD), runM u f l = some (l', fs) → Rising l → (∀ t ∈ l, GT t) → pickM u l' = none ∧ Rising l' ∧ (∀ t ∈ l', GT t) ∧ l'.length ≤ l.length
  | f, l, l', fs, h, hr, hg => by
    cases hk : pickM u l with
    | none =>
      rw [runM_none hk] at h
      cases h
      exact ⟨hk, hr, hg, Nat.le_refl _⟩
    | some k =>
      obtain ⟨a1, a2, _⟩ := pickTo_some hk
      match f, h with
      | 0, h => rw [runM_full hk] at h; cases h
      | f + 1, h =>
        rw [runM_some hk] at h
        cases hq : runM u f (nextM l k) with
        | none => rw [hq] at h; cases h
        | some q =>
          rw [hq] at h
          simp at h
          obtain ⟨rfl, rfl⟩ := h
          have := run_end hu f (nextM l k) q.1 q.2 hq (next_rising hr a1) (next_GT hu a1 hg a2)
          exact ⟨this.1, this.2.1, this.2.2.1, Nat.le_trans this.2.2.2 next_len⟩
theorem goodL_of {now : Int} : ∀ (l : List TimerD) (last : Int), Rising l → (∀ t ∈ l, last < t.1) → (∀ t ∈ l, GT t ∧ now < t.2.1) → goodL now last l = true
  | [], _, _, _, _ => rfl
  | t :: r, last, hr, hl, hg => by
    have h1 := hg t (by simp)
    have h2 := hl t (by simp)
    have hr' : Rising r := fun i j p q hij hi hj => hr (i + 1) (j + 1) p q (by omega) (by simpa using hi) (by simpa using hj)
    have ih := goodL_of r t.1 hr' (fun p hp => by
      obtain ⟨j, hj⟩ := List.mem_iff_getElem?.1 hp
      exact hr 0 (j + 1) t p (by omega) rfl (by simpa using hj)) (fun p hp => hg p (by simp [hp]))
    unfold GT TB at h1
    simp only [goodL, waitB, Bool.and_eq_true, decide_eq_true_eq, inB_true, ih, and_true]
    refine ⟨⟨h2, by omega⟩, ⟨⟨by omega, by omega⟩, by omega⟩, ?_⟩
    by_cases he : t.2.2.1 = 0
    · simp [he, h1.1.2.2.2 he]
    · simp [he]
theorem good_GT {c : ClockD} (h : goodC c = true) : ∀ t ∈ c.2, GT t := by
  simp only [goodC, Bool.and_eq_true, inB_true] at h
  have hb := goodL_TB h.1.1.1 _ _ h.2
  have ha := goodL_above _ _ h.2
  have : ∀ (l : List TimerD) (last : Int), goodL c.1 last l = true → ∀ t ∈ l, t.1 ≤ 999 ∧ (t.2.2.1 = 0 → t.2.2.2 = 1) := by
    intro l
    induction l with
    | nil => intro last _ t ht; cases ht
    | cons x r ih =>
      intro last hg t ht
      simp only [goodL, waitB, Bool.and_eq_true, decide_eq_true_eq] at hg
      rcases List.mem_cons.1 ht with rfl | ht
      · refine ⟨hg.1.1.2, fun he => ?_⟩
        have := hg.1.2.2
        simpa [he] using this
      · exact ih _ hg.2 t ht
  intro t ht
  have h1 := this _ _ h.2 t ht
  have h2 := ha t ht
  exact ⟨hb t ht, by omega, h1.1, h1.2⟩
/-- The clock on the way is good. -/
theorem mid_good {now m : Int} {l l1 : List TimerD} {a : List FiredD} {f : Nat} (hg : goodC (now, l) = true) (h0 : now ≤ m) (hm : m ≤ 100000) (h : runM m f l = some (l1, a)) : goodC (m, l1) = true := by
  obtain ⟨e1, e2, e3, e4⟩ := run_end hm f l l1 a h (good_rising hg) (good_GT hg)
  have hl := good_len hg
  have hn : 0 ≤ now := by
    simp only [goodC, Bool.and_eq_true, inB_true] at hg
    exact hg.1.1.1
  simp only [goodC, Bool.and_eq_true, inB_true, decide_eq_true_eq]
  refine ⟨⟨⟨by omega, hm⟩, by dsimp only at *; omega⟩, goodL_of l1 (-1) e2 (fun t ht => by have := (e3 t ht).2.1; omega) (fun t ht => ⟨e3 t ht, ?_⟩)⟩
  obtain ⟨i, hi, hie⟩ := mem_at ht
  have := pickTo_none e1 i hi
  rw [hie] at this
  exact this

end Go.Proofs.Ythihgjcnjgpegaa
