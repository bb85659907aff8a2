/-
  Heaps of timers: what is put in and taken out, without the program.
-/
import Derived.Test.YthihgjcnjgpegaaTimer
namespace Go.Proofs.Ythihgjcnjgpegaa
open Go.ChangeShapes Go.WideShapes Go.ChangeAt Go.RowKit

/-- One timer fires no later than another. -/
def LeT (a b : TimerD) : Prop := a.2.1 < b.2.1 ∨ a.2.1 = b.2.1 ∧ a.1 ≤ b.1
def aheadB (a b : TimerD) : Bool := decide (a.2.1 < b.2.1) || (a.2.1 == b.2.1 && decide (a.1 < b.1))
theorem ahead_no {a b : TimerD} (h : aheadB b a = false) : LeT a b := by
  simp [aheadB] at h
  unfold LeT
  omega
theorem ahead_yes {a b : TimerD} (h : aheadB a b = true) : LeT a b := by
  simp [aheadB] at h
  unfold LeT
  omega
theorem LeT.refl (a : TimerD) : LeT a a := by unfold LeT; omega
theorem LeT.trans {a b c : TimerD} (h : LeT a b) (k : LeT b c) : LeT a c := by unfold LeT at *; omega
def Heap (f : Nat → TimerD) (n : Nat) : Prop := ∀ i, 0 < i → i < n → LeT (f ((i - 1) / 2)) (f i)
def UpTo (f : Nat → TimerD) (n k : Nat) : Prop := (∀ i, 0 < i → i < n → i ≠ k → LeT (f ((i - 1) / 2)) (f i)) ∧ ∀ i, 0 < i → i < n → (i - 1) / 2 = k → 0 < k → LeT (f ((k - 1) / 2)) (f i)
def DownTo (f : Nat → TimerD) (n k : Nat) : Prop := (∀ i, 0 < i → i < n → (i - 1) / 2 ≠ k → LeT (f ((i - 1) / 2)) (f i)) ∧ ∀ i, 0 < i → i < n → (i - 1) / 2 = k → 0 < k → LeT (f ((k - 1) / 2)) (f i)
def swapF (f : Nat → TimerD) (a b : Nat) : Nat → TimerD := fun i => if i = a then f b else if i = b then f a else f i
theorem up_done {f : Nat → TimerD} {n k : Nat} (h : UpTo f n k) (hk : k = 0 ∨ LeT (f ((k - 1) / 2)) (f k)) : Heap f n := by
  intro i h0 hn
  by_cases hik : i = k
  · subst hik
    rcases hk with h | h
    · omega
    · exact h
  · exact h.1 i h0 hn hik
theorem up_step {f : Nat → TimerD} {n k : Nat} (h : UpTo f n k) (h0 : 0 < k) (hn : k < n) (hl : LeT (f k) (f ((k - 1) / 2))) : UpTo (swapF f k ((k - 1) / 2)) n ((k - 1) / 2) := by
  obtain ⟨h1, h2⟩ := h
  constructor
  · intro i hi hin hip
    unfold swapF
    by_cases e1 : i = k
    · subst e1
      rw [if_neg (by omega), if_pos rfl, if_pos rfl]
      exact hl
    · rw [if_neg e1, if_neg hip]
      by_cases e2 : (i - 1) / 2 = k
      · rw [if_pos e2]
        exact h2 i hi hin e2 h0
      · rw [if_neg e2]
        by_cases e3 : (i - 1) / 2 = (k - 1) / 2
        · rw [if_pos e3]
          have := h1 i hi hin e1
          rw [e3] at this
          exact hl.trans this
        · rw [if_neg e3]
          exact h1 i hi hin e1
  · intro i hi hin hp hk0
    unfold swapF
    rw [if_neg (by omega), if_neg (by omega)]
    have hpp := h1 ((k - 1) / 2) hk0 (by omega) (by omega)
    by_cases e1 : i = k
    · rw [if_pos e1]
      exact hpp
    · rw [if_neg e1, if_neg (by omega)]
      have := h1 i hi hin e1
      rw [hp] at this
      exact hpp.trans this
theorem down_done {f : Nat → TimerD} {n k : Nat} (h : DownTo f n k) (hk : ∀ i, 0 < i → i < n → (i - 1) / 2 = k → LeT (f k) (f i)) : Heap f n := by
  intro i h0 hn
  by_cases hik : (i - 1) / 2 = k
  · rw [hik]
    exact hk i h0 hn hik
  · exact h.1 i h0 hn hik
theorem down_step {f : Nat → TimerD} {n k c : Nat} (h : DownTo f n k) (hc0 : 0 < c) (hcn : c < n) (hck : (c - 1) / 2 = k) (hl : LeT (f c) (f k)) (hs : ∀ i, 0 < i → i < n → (i - 1) / 2 = k → LeT (f c) (f i)) : DownTo (swapF f k c) n c := by
  obtain ⟨h1, h2⟩ := h
  constructor
  · intro i hi hin hip
    unfold swapF
    by_cases e1 : (i - 1) / 2 = k
    · rw [if_pos e1, if_neg (by omega)]
      by_cases e2 : i = c
      · rw [if_pos e2]; exact hl
      · rw [if_neg e2]; exact hs i hi hin e1
    · rw [if_neg e1, if_neg hip]
      by_cases e2 : i = k
      · rw [if_pos e2]
        have := h2 c hc0 hcn hck (by omega)
        rw [e2]
        exact this
      · rw [if_neg e2, if_neg (by omega)]
        exact h1 i hi hin e1
  · intro i hi hin hp _
    unfold swapF
    rw [if_pos hck, if_neg (by omega), if_neg (by omega)]
    have := h1 i hi hin (by omega)
    rw [hp] at this
    exact this
theorem heap_min {f : Nat → TimerD} {n : Nat} (h : Heap f n) : ∀ i, i < n → LeT (f 0) (f i) := by
  intro i
  induction i using Nat.strongRecOn with
  | _ i ih =>
    intro hi
    by_cases h0 : i = 0
    · rw [h0]; exact LeT.refl _
    · exact (ih ((i - 1) / 2) (by omega) (by omega)).trans (h i (by omega) hi)
/-- The timer at a place. -/
def atT (l : List TimerD) (i : Nat) : TimerD := (l[i]?).getD timer0
theorem atT_some {l : List TimerD} {i : Nat} (h : i < l.length) : l[i]? = some (atT l i) := by
  unfold atT
  rw [List.getElem?_eq_getElem h]
  rfl
theorem atT_of {l : List TimerD} {i : Nat} {t : TimerD} (h : l[i]? = some t) : atT l i = t := by unfold atT; rw [h]; rfl
theorem atT_set {l : List TimerD} {i j : Nat} {t : TimerD} (hi : i < l.length) : atT (l.set i t) j = if i = j then t else atT l j := by
  unfold atT
  rw [List.getElem?_set, if_pos hi]
  split <;> rfl
theorem atT_swap {l : List TimerD} {i j : Nat} (hi : i < l.length) (hj : j < l.length) : atT ((l.set i (atT l j)).set j (atT l i)) = swapF (atT l) i j := by
  funext x
  rw [atT_set (by simpa using hj), atT_set hi]
  unfold swapF
  by_cases h1 : j = x
  · subst h1
    rw [if_pos rfl]
    by_cases h2 : j = i
    · rw [if_pos h2, h2]
    · rw [if_neg h2, if_pos rfl]
  · rw [if_neg h1]
    by_cases h2 : i = x
    · rw [if_pos h2, if_pos h2.symm]
    · rw [if_neg h2, if_neg (fun e => h2 e.symm), if_neg (fun e => h1 e.symm)]
theorem swap_perm {l : List TimerD} {i j : Nat} (hi : i < l.length) (hj : j < l.length) : ((l.set i (atT l j)).set j (atT l i)).Perm l := by
  rw [List.perm_iff_count]
  intro a
  have e1 : l[i] = atT l i := Option.some.inj ((List.getElem?_eq_getElem hi).symm.trans (atT_some hi))
  have e2 : l[j] = atT l j := Option.some.inj ((List.getElem?_eq_getElem hj).symm.trans (atT_some hj))
  by_cases hij : i = j
  · subst hij
    rw [List.set_set, ← e1, List.set_getElem_self]
  · rw [List.count_set (by simpa using hj), List.count_set hi, List.getElem_set_ne (by omega), e1, e2]
    have h1 : (if (atT l i == a) = true then 1 else 0) ≤ List.count a l := by
      split
      · rename_i h
        have : a = atT l i := by simpa using (LawfulBEq.eq_of_beq h).symm
        rw [this]
        exact List.count_pos_iff.2 (List.mem_of_getElem? (atT_some hi))
      · omega
    omega

end Go.Proofs.Ythihgjcnjgpegaa
