/-
  The first timer taken out of a heap, without the program.
-/
import Derived.Test.YthihgjcnjgpegaaFirst
import Derived.Test.YthihgjcnjgpegaaPlace
namespace Go.Proofs.Ythihgjcnjgpegaa
open Go.ChangeShapes Go.WideShapes Go.ChangeAt Go.RowKit

theorem own_cap {w : World} {base g n m cap size : Nat} {e : TypeId} {xs : List Value} (h : w.ownsRow base e size (.slice (some ⟨g, 0, none⟩) m cap) n xs) : n ≤ cap := by
  rcases h.2 with ⟨hv, _⟩ | ⟨g', cap', cur, hv, _, _, hnc, _⟩
  · cases hv
  · injection hv with _ _ h3
    omega
theorem own_take {w : World} {base g n cap m size : Nat} {e : TypeId} {xs : List Value} (h : w.ownsRow base e size (.slice (some ⟨g, 0, none⟩) n cap) n xs) (hm : m ≤ n) : w.ownsRow base e size (.slice (some ⟨g, 0, none⟩) m cap) m (xs.take (m * size)) := by
  rcases h.2 with ⟨hv, _⟩ | ⟨g', cap', cur, hv, hb, hg, hnc, hcm, hsz, htk⟩
  · cases hv
  · cases hv
    refine ⟨?_, .inr ⟨g, cap, cur, rfl, hb, hg, by omega, hcm, hsz, ?_⟩⟩
    · rw [List.length_take, h.1]
      exact Nat.min_eq_left (Nat.mul_le_mul_right _ hm)
    · rw [← htk, List.take_take, Nat.min_eq_left (Nat.mul_le_mul_right _ hm)]
theorem TimerO.take {w : World} {lo hi g n cap m : Nat} {ps : List TimerD} (h : TimerO w lo hi (.slice (some ⟨g, 0, none⟩) n cap) ps) (hn : ps.length = n) (hm : m ≤ n) : TimerO w lo hi (.slice (some ⟨g, 0, none⟩) m cap) (ps.take m) := by
  subst hn
  refine ⟨?_, fun x hx => h.2 x hx⟩
  rw [List.length_take, Nat.min_eq_left hm, flat_take 4 timerC timerC_len]
  exact own_take h.1 hm
/-- The first one out, the last one in its place. -/
def cutF (ps : List TimerD) : List TimerD := (ps.set 0 (atT ps (ps.length - 1))).take (ps.length - 1)
theorem cutF_len (ps : List TimerD) : (cutF ps).length = ps.length - 1 := by simp [cutF]
theorem cutF_perm {ps : List TimerD} (h0 : 0 < ps.length) : (atT ps 0 :: cutF ps).Perm ps := by
  match ps, h0 with
  | [x], _ => simp [cutF, atT]
  | x :: y :: r, _ =>
    have e : x :: y :: r = x :: ((y :: r).take r.length ++ [atT (x :: y :: r) (r.length + 1)]) := by
      congr 1
      have h1 : atT (x :: y :: r) (r.length + 1) = (y :: r)[r.length] := by simp [atT]
      rw [h1]
      exact ((List.take_append_getElem (l := y :: r) (i := r.length) (by simp)).trans (List.take_of_length_le (by simp))).symm
    have hc : cutF (x :: y :: r) = atT (x :: y :: r) (r.length + 1) :: (y :: r).take r.length := by
      simp [cutF]
    rw [hc]
    conv => rhs; rw [e]
    exact (List.perm_append_comm (l₁ := [atT (x :: y :: r) (r.length + 1)]) (l₂ := (y :: r).take r.length)).cons _
theorem cutF_at {ps : List TimerD} {i : Nat} (h0 : 0 < i) (hi : i < ps.length - 1) : atT (cutF ps) i = atT ps i := by
  unfold cutF atT
  rw [List.getElem?_take, if_pos hi, List.getElem?_set_ne (by omega)]
theorem cutF_down {ps : List TimerD} (hh : Heap (atT ps) ps.length) : DownTo (atT (cutF ps)) (ps.length - 1) 0 := by
  constructor
  · intro i h0 hi hne
    rw [cutF_at h0 hi, cutF_at (by omega) (by omega)]
    exact hh i h0 (by omega)
  · intro i _ _ _ h; omega
/-- What the choice of three gives. -/
theorem pick3_spec (qs : List TimerD) (k : Nat) : (pick3 qs k = k ∧ ∀ i, 0 < i → i < qs.length → (i - 1) / 2 = k → LeT (atT qs k) (atT qs i)) ∨ (k < pick3 qs k ∧ pick3 qs k < qs.length ∧ (pick3 qs k - 1) / 2 = k ∧ LeT (atT qs (pick3 qs k)) (atT qs k) ∧ ∀ i, 0 < i → i < qs.length → (i - 1) / 2 = k → LeT (atT qs (pick3 qs k)) (atT qs i)) := by
  unfold pick3
  have two : ∀ i, (i - 1) / 2 = k → 0 < i → i = 2 * k + 1 ∨ i = 2 * k + 2 := by omega
  by_cases a1 : 2 * k + 1 < qs.length ∧ aheadB (atT qs (2 * k + 1)) (atT qs k) = true
  · have e1 : stepF qs k (2 * k + 1) = 2 * k + 1 := by unfold stepF; rw [a1.2]; simp [a1.1]
    rw [e1]
    by_cases a2 : 2 * k + 2 < qs.length ∧ aheadB (atT qs (2 * k + 2)) (atT qs (2 * k + 1)) = true
    · have e2 : stepF qs (2 * k + 1) (2 * k + 2) = 2 * k + 2 := by unfold stepF; rw [a2.2]; simp [a2.1]
      rw [e2]
      have h1 := ahead_yes a2.2
      have h2 := ahead_yes a1.2
      refine .inr ⟨by omega, a2.1, by omega, h1.trans h2, fun i h0 _ hi => ?_⟩
      rcases two i hi h0 with rfl | rfl
      · exact h1
      · exact LeT.refl _
    · have e2 : stepF qs (2 * k + 1) (2 * k + 2) = 2 * k + 1 := by
        unfold stepF
        rw [if_neg]
        simpa using a2
      rw [e2]
      refine .inr ⟨by omega, a1.1, by omega, ahead_yes a1.2, fun i h0 hin hi => ?_⟩
      rcases two i hi h0 with rfl | rfl
      · exact LeT.refl _
      · refine ahead_no ?_
        cases h : aheadB (atT qs (2 * k + 2)) (atT qs (2 * k + 1)) with
        | false => rfl
        | true => exact absurd ⟨hin, h⟩ a2
  · have e1 : stepF qs k (2 * k + 1) = k := by
      unfold stepF
      rw [if_neg]
      simpa using a1
    rw [e1]
    have l1 : 2 * k + 1 < qs.length → LeT (atT qs k) (atT qs (2 * k + 1)) := fun hin => by
      refine ahead_no ?_
      cases h : aheadB (atT qs (2 * k + 1)) (atT qs k) with
      | false => rfl
      | true => exact absurd ⟨hin, h⟩ a1
    by_cases a2 : 2 * k + 2 < qs.length ∧ aheadB (atT qs (2 * k + 2)) (atT qs k) = true
    · have e2 : stepF qs k (2 * k + 2) = 2 * k + 2 := by unfold stepF; rw [a2.2]; simp [a2.1]
      rw [e2]
      have h1 := ahead_yes a2.2
      refine .inr ⟨by omega, a2.1, by omega, h1, fun i h0 _ hi => ?_⟩
      rcases two i hi h0 with rfl | rfl
      · exact h1.trans (l1 (by omega))
      · exact LeT.refl _
    · have e2 : stepF qs k (2 * k + 2) = k := by
        unfold stepF
        rw [if_neg]
        simpa using a2
      rw [e2]
      refine .inl ⟨rfl, fun i h0 hin hi => ?_⟩
      rcases two i hi h0 with rfl | rfl
      · exact l1 hin
      · refine ahead_no ?_
        cases h : aheadB (atT qs (2 * k + 2)) (atT qs k) with
        | false => rfl
        | true => exact absurd ⟨hin, h⟩ a2

end Go.Proofs.Ythihgjcnjgpegaa
