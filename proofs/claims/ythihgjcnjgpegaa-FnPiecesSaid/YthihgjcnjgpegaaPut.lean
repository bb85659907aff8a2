/-
  A timer put into a rising list.
-/
import Derived.Test.YthihgjcnjgpegaaPlace
namespace Go.Proofs.Ythihgjcnjgpegaa
open Go.ChangeShapes Go.WideShapes Go.ChangeAt Go.RowKit

/-- One step of the way on which a timer is put into a list. -/
def addStep (t : TimerD) (s : List TimerD × Bool) (o : TimerD) : List TimerD × Bool :=
  let s1 := if !s.2 && decide (t.1 ≤ o.1) then (s.1 ++ [t], true) else s
  if o.1 == t.1 then s1 else (s1.1 ++ [o], s1.2)
def addF (t : TimerD) (l : List TimerD) : List TimerD × Bool := l.foldl (addStep t) ([], false)
/-- The list with a timer put in. -/
def addM (t : TimerD) (l : List TimerD) : List TimerD := if (addF t l).2 then (addF t l).1 else (addF t l).1 ++ [t]
/-- What AddTimer answers. -/
def addA (c : ClockD) (t : TimerD) : ClockD × Bool := if goodC c && goodC (c.1, addM t c.2) then ((c.1, addM t c.2), true) else ((0, []), false)
theorem addA_no {c : ClockD} {t : TimerD} {P : List TimerD} (h : addM t c.2 = P) (h9 : goodC (c.1, P) = false) : addA c t = ((0, []), false) := by
  unfold addA
  rw [h, h9, Bool.and_false]
  rfl
theorem addA_yes {c : ClockD} {t : TimerD} {P : List TimerD} (h : addM t c.2 = P) (hg : goodC c = true) (h9 : goodC (c.1, P) = true) : addA c t = ((c.1, P), true) := by
  unfold addA
  rw [h, h9, hg]
  rfl
theorem addF_snoc {t : TimerD} {l : List TimerD} {k : Nat} {o : TimerD} (h : l[k]? = some o) : addF t (l.take (k + 1)) = addStep t (addF t (l.take k)) o := by
  rw [take_snoc h, addF, List.foldl_append]
  rfl
theorem addF_len (t : TimerD) : ∀ (l : List TimerD) (s : List TimerD × Bool), (l.foldl (addStep t) s).1.length ≤ s.1.length + 2 * l.length
  | [], s => by simp
  | o :: r, s => by
    have h := addF_len t r (addStep t s o)
    have h2 : (addStep t s o).1.length ≤ s.1.length + 2 := by
      unfold addStep
      simp only
      split <;> split <;> simp
    simp only [List.foldl_cons, List.length_cons]
    omega
theorem fold_low {t : TimerD} : ∀ (l : List TimerD) (xs : List TimerD), (∀ p ∈ l, p.1 < t.1) → l.foldl (addStep t) (xs, false) = (xs ++ l, false)
  | [], xs, _ => by simp
  | o :: r, xs, h => by
    have ho := h o (by simp)
    rw [List.foldl_cons, show addStep t (xs, false) o = (xs ++ [o], false) by simp [addStep, show ¬ t.1 ≤ o.1 by omega, show ¬ o.1 = t.1 by omega], fold_low r _ (fun p hp => h p (by simp [hp]))]
    simp
theorem fold_high {t : TimerD} : ∀ (l : List TimerD) (xs : List TimerD), (∀ p ∈ l, t.1 < p.1) → l.foldl (addStep t) (xs, true) = (xs ++ l, true)
  | [], xs, _ => by simp
  | o :: r, xs, h => by
    have ho := h o (by simp)
    rw [List.foldl_cons, show addStep t (xs, true) o = (xs ++ [o], true) by simp [addStep, show ¬ o.1 = t.1 by omega], fold_high r _ (fun p hp => h p (by simp [hp]))]
    simp
theorem add_low {l : List TimerD} {id : Int} {i : Nat} (hp : IsPos l id i) : ∀ p ∈ l.take i, p.1 < id := fun p h => by
  obtain ⟨j, hj⟩ := List.mem_iff_getElem?.1 h
  rw [List.getElem?_take] at hj
  split at hj
  · rename_i h'
    exact hp.2.1 j p h' hj
  · cases hj
theorem add_has {l : List TimerD} {t : TimerD} {i : Nat} (hp : IsPos l t.1 i) (hr : Rising l) (hh : hasId l t.1 i = true) : addM t l = l.set i t ∧ i < l.length := by
  unfold hasId at hh
  cases hi : l[i]? with
  | none => rw [hi] at hh; cases hh
  | some p =>
    rw [hi] at hh
    have hpi : p.1 = t.1 := by simpa using hh
    obtain ⟨hil, hie⟩ := List.getElem?_eq_some_iff.1 hi
    refine ⟨?_, hil⟩
    have e : l = l.take i ++ (p :: l.drop (i + 1)) := by rw [← hie, ← List.drop_eq_getElem_cons hil, List.take_append_drop]
    have hF : addF t l = (l.take i ++ [t] ++ l.drop (i + 1), true) := by
      unfold addF
      conv => lhs; rw [e]
      rw [List.foldl_append, fold_low _ _ (add_low hp), List.foldl_cons, show addStep t ([] ++ l.take i, false) p = (l.take i ++ [t], true) by simp [addStep, hpi], fold_high]
      intro q hq
      obtain ⟨j, hj⟩ := List.mem_iff_getElem?.1 hq
      rw [List.getElem?_drop] at hj
      have := hr i (i + 1 + j) p q (by omega) hi hj
      omega
    unfold addM
    rw [hF]
    simp only [if_true]
    rw [List.set_eq_take_append_cons_drop, if_pos hil]
    simp
theorem add_new {l : List TimerD} {t : TimerD} {i : Nat} (hp : IsPos l t.1 i) (hr : Rising l) (hh : hasId l t.1 i = false) : addM t l = l.take i ++ [t] ++ l.drop i := by
  cases hi : l[i]? with
  | none =>
    have hil : l.length ≤ i := List.getElem?_eq_none_iff.1 hi
    have hF : addF t l = (l, false) := by
      have := fold_low (t := t) (l.take i) [] (add_low hp)
      rw [List.take_of_length_le hil] at this
      simpa [addF] using this
    unfold addM
    rw [hF, List.take_of_length_le hil, List.drop_of_length_le hil]
    simp
  | some p =>
    obtain ⟨hil, hie⟩ := List.getElem?_eq_some_iff.1 hi
    have hpi : p.1 ≠ t.1 := by simpa [hasId, hi] using hh
    have hge := hp.2.2 i p (Nat.le_refl _) hi
    have e : l = l.take i ++ (p :: l.drop (i + 1)) := by rw [← hie, ← List.drop_eq_getElem_cons hil, List.take_append_drop]
    have hF : addF t l = (l.take i ++ [t] ++ [p] ++ l.drop (i + 1), true) := by
      unfold addF
      conv => lhs; rw [e]
      rw [List.foldl_append, fold_low _ _ (add_low hp), List.foldl_cons, show addStep t ([] ++ l.take i, false) p = (l.take i ++ [t] ++ [p], true) by simp [addStep, hpi, hge], fold_high]
      intro q hq
      obtain ⟨j, hj⟩ := List.mem_iff_getElem?.1 hq
      rw [List.getElem?_drop] at hj
      have := hr i (i + 1 + j) p q (by omega) hi hj
      omega
    unfold addM
    rw [hF]
    simp only [if_true]
    rw [show l.drop i = p :: l.drop (i + 1) by rw [List.drop_eq_getElem_cons hil, hie]]
    simp

end Go.Proofs.Ythihgjcnjgpegaa
