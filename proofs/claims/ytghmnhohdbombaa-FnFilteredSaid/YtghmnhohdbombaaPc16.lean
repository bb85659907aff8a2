/-
  A filter run in pieces, free of the program; a row's beginning and its rest.
-/
import Derived.Test.YtghmnhohdbombaaSRun16
namespace Go.Proofs.Ytghmnhohdbombaa
open Go.ChangeShapes Go.WideShapes Go.ChangeAt Go.RowKit Ieee

theorem run_good (p : FilterD) (l : List Nat) : ∀ m q, GoodB m.1 → GoodB m.2 → runM p m l = some q → GoodB q.2.1 ∧ GoodB q.2.2 ∧ ∀ y ∈ q.1, GoodB y := by
  induction l with
  | nil => intro m q h1 h2 h; cases h; exact ⟨h1, h2, fun y hy => by cases hy⟩
  | cons x xs ih =>
    intro m q h1 h2 h
    simp only [runM] at h
    cases hs : stepM p m x with
    | none => rw [hs] at h; cases h
    | some r =>
      rw [hs] at h
      simp only [Option.bind_some] at h
      obtain ⟨g0, g1, g2⟩ := step_good p m x r hs
      cases hr : runM p r.2 xs with
      | none => rw [hr] at h; cases h
      | some t =>
        rw [hr] at h
        cases h
        obtain ⟨a, b, c⟩ := ih _ _ g1 g2 hr
        refine ⟨a, b, fun y hy => ?_⟩
        rcases List.mem_cons.1 hy with rfl | h
        · exact g0
        · exact c y h
theorem goodR_take {l : List Nat} (k : Nat) (h : goodR l = true) : goodR (l.take k) = true ∧ goodR (l.drop k) = true := by
  simp only [goodR, Bool.and_eq_true, decide_eq_true_eq, List.all_eq_true] at h ⊢
  refine ⟨⟨by simp; omega, fun x hx => h.2 x (List.mem_of_mem_take hx)⟩, ⟨by simp; omega, fun x hx => h.2 x (List.mem_of_mem_drop hx)⟩⟩
/-- What runs, runs in pieces too, to the same bits. -/
theorem pieces (p : FilterD) (m : MemoryD) (l : List Nat) (k : Nat) (hm1 : m.1 < 18446744073709551616) (hm2 : m.2 < 18446744073709551616) (h : (runF p m l).2.2 = true) :
    ∃ A mid Bb, runF p m (l.take k) = (A, mid, true) ∧ runF p mid (l.drop k) = (Bb, (runF p m l).2.1, true) ∧ (runF p m l).1 = A ++ Bb ∧ (mid.1 < 18446744073709551616 ∧ mid.2 < 18446744073709551616) ∧
      (∀ y ∈ (runF p m l).1, nanB y = false) ∧ nanB (runF p m l).2.1.1 = false ∧ nanB (runF p m l).2.1.2 = false ∧ (runF p m l).1.length = l.length ∧ A.length = (l.take k).length ∧ Bb.length = (l.drop k).length := by
  cases hg : (goodF p && goodM m && goodR l) with
  | false => simp [runF, hg] at h
  | true =>
    have hg' := hg
    simp only [Bool.and_eq_true] at hg'
    obtain ⟨⟨gf, gm⟩, gr⟩ := hg'
    have gm2 := gm
    simp only [goodM, Bool.and_eq_true] at gm2
    have h1 : GoodB m.1 := ⟨gm2.1, hm1⟩
    have h2 : GoodB m.2 := ⟨gm2.2, hm2⟩
    cases hr : runM p m l with
    | none => simp [runF, hg, hr] at h
    | some q =>
      have hF : runF p m l = (q.1, q.2, true) := by simp [runF, hg, hr]
      have hsp := runM_append p (l.take k) (l.drop k) m
      rw [List.take_append_drop, hr] at hsp
      cases ht : runM p m (l.take k) with
      | none => rw [ht] at hsp; cases hsp
      | some a =>
        rw [ht] at hsp
        simp only [Option.bind_some] at hsp
        cases hd : runM p a.2 (l.drop k) with
        | none => rw [hd] at hsp; cases hsp
        | some c =>
          rw [hd] at hsp
          simp only [Option.map_some, Option.some.injEq] at hsp
          obtain ⟨ga1, ga2, _⟩ := run_good p _ _ _ h1 h2 ht
          obtain ⟨gq1, gq2, gq3⟩ := run_good p _ _ _ h1 h2 hr
          obtain ⟨gt, gd⟩ := goodR_take k gr
          rw [hF]
          refine ⟨a.1, a.2, c.1, by simp [runF, gf, gm, gt, ht], ?_, by rw [hsp], ⟨ga1.2, ga2.2⟩, fun y hy => fin_nan (good_fin (gq3 y hy).1), fin_nan (good_fin gq1.1), fin_nan (good_fin gq2.1), run_len _ _ _ _ hr, run_len _ _ _ _ ht, run_len _ _ _ _ hd⟩
          have gm3 : goodM a.2 = true := by simp [goodM, ga1.1, ga2.1]
          simp only [runF, gf, gm3, gd, Bool.and_self, if_true, hd]
          rw [hsp]
theorem bad_zero (p : FilterD) (m : MemoryD) (l : List Nat) (h : (runF p m l).2.2 = false) : runF p m l = ([], (0, 0), false) := by
  unfold runF at h ⊢
  split at h
  · split at h
    · cases h
    · rename_i h1 _ h2
      rw [if_pos h1]
  · rename_i h1
    rw [if_neg h1]
theorem FltAt.take {w : World} {ao : Option Addr} {cap : Nat} {l : List Nat} (h : FltAt w (.slice ao l.length cap) l) (k : Nat) (hk : k ≤ l.length) : FltAt w (.slice ao k cap) (l.take k) := by
  obtain ⟨ao', cap', e, hc⟩ := h
  cases e
  have hl : (l.take k).length = k := by simp; omega
  refine ⟨ao, cap, by rw [hl], fun j x hj => hc j x ?_⟩
  have : ((l.take k ++ l.drop k).flatMap fltC)[j]? = some x := by
    rw [List.flatMap_append, List.getElem?_append_left (List.getElem?_eq_some_iff.1 hj).1]
    exact hj
  rwa [List.take_append_drop] at this
theorem FltAt.drop {w : World} {b o cap cap2 : Nat} {l : List Nat} (h : FltAt w (.slice (some ⟨b, o, none⟩) l.length cap) l) (k : Nat) (hk : k ≤ l.length) : FltAt w (.slice (some ⟨b, o + k, none⟩) (l.length - k) cap2) (l.drop k) := by
  obtain ⟨ao', cap', e, hc⟩ := h
  cases e
  have hl : (l.drop k).length = l.length - k := by simp
  refine ⟨some ⟨b, o + k, none⟩, cap2, by rw [hl], fun j x hj => ?_⟩
  have hj2 : (l.flatMap fltC)[k + j]? = some x := by
    have h1 : ((l.take k ++ l.drop k).flatMap fltC)[k + j]? = some x := by
      have ht : ((l.take k).flatMap fltC).length = k := by rw [flat_len 1 fltC fltC_len]; simp; omega
      rw [List.flatMap_append, List.getElem?_append_right (by omega), ht, Nat.add_sub_cancel_left]
      exact hj
    rwa [List.take_append_drop] at h1
  obtain ⟨b', o', e2, h2⟩ := hc _ _ hj2
  cases e2
  exact ⟨b, o + k, rfl, by rw [Nat.add_assoc]; exact h2⟩
end Go.Proofs.Ytghmnhohdbombaa
