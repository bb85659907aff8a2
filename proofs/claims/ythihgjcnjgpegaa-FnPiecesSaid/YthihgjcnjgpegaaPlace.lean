/-
  Timers of a rising list by their Id.
-/
import Derived.Test.YthihgjcnjgpegaaFind
import Derived.Test.YthihgjcnjgpegaaDropS
namespace Go.Proofs.Ythihgjcnjgpegaa
open Go.ChangeShapes Go.WideShapes Go.ChangeAt Go.RowKit

theorem flat_take {α : Type} (k : Nat) (f : α → List Value) (hf : ∀ a, (f a).length = k) : ∀ (l : List α) (i : Nat), (l.take i).flatMap f = (l.flatMap f).take (i * k)
  | [], i => by simp
  | a :: l, 0 => by simp
  | a :: l, i + 1 => by
    rw [List.take_succ_cons, List.flatMap_cons, List.flatMap_cons, flat_take k f hf l i, Nat.succ_mul, Nat.add_comm (i * k) k, List.take_append, hf, show k + i * k - k = i * k by omega, List.take_of_length_le (l := f a) (by rw [hf]; omega)]
theorem flat_drop {α : Type} (k : Nat) (f : α → List Value) (hf : ∀ a, (f a).length = k) : ∀ (l : List α) (i : Nat), (l.drop i).flatMap f = (l.flatMap f).drop (i * k)
  | [], i => by simp
  | a :: l, 0 => by simp
  | a :: l, i + 1 => by
    rw [List.drop_succ_cons, List.flatMap_cons, flat_drop k f hf l i, Nat.succ_mul, Nat.add_comm (i * k) k, List.drop_append, hf, show k + i * k - k = i * k by omega, List.drop_of_length_le (l := f a) (by rw [hf]; omega), List.nil_append]

theorem goodL_above {now : Int} : ∀ (l : List TimerD) (last : Int), goodL now last l = true → ∀ p ∈ l, last < p.1
  | [], _, _ => fun p hp => by cases hp
  | t :: r, last, h => by
    simp only [goodL, Bool.and_eq_true, decide_eq_true_eq] at h
    intro p hp
    rcases List.mem_cons.1 hp with rfl | hp
    · exact h.1.1.1
    · have := goodL_above r t.1 h.2 p hp
      omega
theorem rising_of {now : Int} : ∀ (l : List TimerD) (last : Int), goodL now last l = true → Rising l
  | [], _, _ => fun i j p q _ hi _ => by simp at hi
  | t :: r, last, h => by
    simp only [goodL, Bool.and_eq_true, decide_eq_true_eq] at h
    have ih := rising_of r t.1 h.2
    have ab := goodL_above r t.1 h.2
    intro i j p q hij hi hj
    match i, j, hij, hi, hj with
    | 0, j + 1, _, hi, hj =>
      simp at hi hj
      subst hi
      exact ab q (List.mem_of_getElem? hj)
    | i + 1, j + 1, hij, hi, hj =>
      simp at hi hj
      exact ih i j p q (by omega) hi hj
theorem good_rising {c : ClockD} (h : goodC c = true) : Rising c.2 := by
  simp only [goodC, Bool.and_eq_true] at h
  exact rising_of _ _ h.2
theorem good_len {c : ClockD} (h : goodC c = true) : c.2.length ≤ 20 := by
  simp only [goodC, Bool.and_eq_true, decide_eq_true_eq] at h
  exact h.1.2
theorem filter_all {α : Type} {p : α → Bool} {l : List α} (h : ∀ a ∈ l, p a = true) : l.filter p = l := List.filter_eq_self.2 h
theorem has_split {l : List TimerD} {id : Int} {i : Nat} (hp : IsPos l id i) (hr : Rising l) (hh : hasId l id i = true) : dropM l id = l.take i ++ l.drop (i + 1) ∧ l.any (fun t => t.1 == id) = true ∧ i < l.length := by
  unfold hasId at hh
  cases hi : l[i]? with
  | none => rw [hi] at hh; cases hh
  | some p =>
    rw [hi] at hh
    have hpi : p.1 = id := by simpa using hh
    obtain ⟨hil, hie⟩ := List.getElem?_eq_some_iff.1 hi
    refine ⟨?_, List.any_eq_true.2 ⟨p, List.mem_of_getElem? hi, hh⟩, hil⟩
    have e : l = l.take i ++ (p :: l.drop (i + 1)) := by rw [← hie, ← List.drop_eq_getElem_cons hil, List.take_append_drop]
    have h1 : (l.take i).filter (fun t => !(t.1 == id)) = l.take i := filter_all fun a ha => by
      obtain ⟨j, hj⟩ := List.mem_iff_getElem?.1 ha
      rw [List.getElem?_take] at hj
      split at hj
      · rename_i h
        have := hp.2.1 j a h hj
        simp; omega
      · cases hj
    have h2 : (l.drop (i + 1)).filter (fun t => !(t.1 == id)) = l.drop (i + 1) := filter_all fun a ha => by
      obtain ⟨j, hj⟩ := List.mem_iff_getElem?.1 ha
      rw [List.getElem?_drop] at hj
      have := hr i (i + 1 + j) p a (by omega) hi hj
      simp; omega
    unfold dropM
    conv => lhs; rw [e]
    rw [List.filter_append, h1, List.filter_cons, h2]
    simp [hpi]
theorem has_none {l : List TimerD} {id : Int} {i : Nat} (hp : IsPos l id i) (hr : Rising l) (hh : hasId l id i = false) : l.any (fun t => t.1 == id) = false := by
  rw [List.any_eq_false]
  intro t ht
  obtain ⟨j, hj⟩ := List.mem_iff_getElem?.1 ht
  by_cases hji : j < i
  · have := hp.2.1 j t hji hj
    simp; omega
  · by_cases hjj : j = i
    · subst hjj
      simpa [hasId, hj] using hh
    · obtain ⟨p, hpi⟩ : ∃ p, l[i]? = some p := ⟨_, List.getElem?_eq_getElem (by have := (List.getElem?_eq_some_iff.1 hj).1; omega)⟩
      have h1 := hp.2.2 i p (Nat.le_refl _) hpi
      have h2 := hr i j p t (by omega) hpi hj
      simp; omega

end Go.Proofs.Ythihgjcnjgpegaa
