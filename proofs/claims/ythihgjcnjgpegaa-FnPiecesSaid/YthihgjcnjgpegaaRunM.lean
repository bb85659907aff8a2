/-
  Runs of clocks, without the program.
-/
import Derived.Test.YthihgjcnjgpegaaHeap
import Derived.Test.YthihgjcnjgpegaaPlace
import Derived.Test.YthihgjcnjgpegaaDue
namespace Go.Proofs.Ythihgjcnjgpegaa
open Go.ChangeShapes Go.WideShapes Go.ChangeAt Go.RowKit

/-- The first of those that fire first, among the first n. -/
def pickTo (u : Int) (l : List TimerD) : Nat → Option Nat
  | 0 => none
  | n + 1 => if (atT l n).2.1 ≤ u then (match pickTo u l n with
    | none => some n
    | some k => if (atT l n).2.1 < (atT l k).2.1 then some n else some k) else pickTo u l n
def pickM (u : Int) (l : List TimerD) : Option Nat := pickTo u l l.length
theorem pickTo_none {u : Int} {l : List TimerD} : ∀ {n : Nat}, pickTo u l n = none → ∀ j, j < n → u < (atT l j).2.1
  | 0, _, j, hj => by omega
  | n + 1, h, j, hj => by
    unfold pickTo at h
    split at h
    · split at h
      · cases h
      · split at h <;> cases h
    · rename_i hc
      by_cases e : j = n
      · subst e; omega
      · exact pickTo_none h j (by omega)
theorem pickTo_some {u : Int} {l : List TimerD} : ∀ {n k : Nat}, pickTo u l n = some k → k < n ∧ (atT l k).2.1 ≤ u ∧ ∀ j, j < n → (atT l j).2.1 ≤ u → (atT l k).2.1 < (atT l j).2.1 ∨ (atT l k).2.1 = (atT l j).2.1 ∧ k ≤ j
  | 0, k, h => by cases h
  | n + 1, k, h => by
    unfold pickTo at h
    split at h
    · rename_i hc
      split at h
      · rename_i hn
        cases h
        refine ⟨by omega, hc, fun j hj hju => ?_⟩
        by_cases e : j = n
        · subst e; omega
        · have := pickTo_none hn j (by omega); omega
      · rename_i k' hk
        obtain ⟨a1, a2, a3⟩ := pickTo_some hk
        split at h
        · rename_i hlt
          cases h
          refine ⟨by omega, hc, fun j hj hju => ?_⟩
          by_cases e : j = n
          · subst e; omega
          · have := a3 j (by omega) hju; omega
        · rename_i hlt
          cases h
          refine ⟨by omega, a2, fun j hj hju => ?_⟩
          by_cases e : j = n
          · subst e; omega
          · exact a3 j (by omega) hju
    · rename_i hc
      obtain ⟨a1, a2, a3⟩ := pickTo_some h
      refine ⟨by omega, a2, fun j hj hju => ?_⟩
      by_cases e : j = n
      · subst e; omega
      · exact a3 j (by omega) hju
/-- A list behind the firing of its k-th timer. -/
def nextM (l : List TimerD) (k : Nat) : List TimerD := if decide (0 < (atT l k).2.2.1) && decide (1 < (atT l k).2.2.2) then l.set k ((atT l k).1, (atT l k).2.1 + (atT l k).2.2.1, (atT l k).2.2.1, (atT l k).2.2.2 - 1) else l.eraseIdx k
/-- A run up to u, with so many firings left. -/
def runM (u : Int) : Nat → List TimerD → Option (List TimerD × List FiredD)
  | 0, l => match pickM u l with
    | none => some (l, [])
    | some _ => none
  | f + 1, l => match pickM u l with
    | none => some (l, [])
    | some k => (runM u f (nextM l k)).map fun r => (r.1, ((atT l k).2.1, (atT l k).1) :: r.2)
theorem runM_none {u : Int} {l : List TimerD} (h : pickM u l = none) (f : Nat) : runM u f l = some (l, []) := by
  cases f <;> simp [runM, h]
theorem runM_some {u : Int} {l : List TimerD} {k : Nat} (h : pickM u l = some k) (f : Nat) : runM u (f + 1) l = (runM u f (nextM l k)).map fun r => (r.1, ((atT l k).2.1, (atT l k).1) :: r.2) := by
  simp [runM, h]
theorem runM_full {u : Int} {l : List TimerD} {k : Nat} (h : pickM u l = some k) : runM u 0 l = none := by
  simp [runM, h]
/-- What was fired ahead, ahead of what fires. -/
def ahd (fs : List FiredD) (r : Option (List TimerD × List FiredD)) : Option (List TimerD × List FiredD) := r.map fun x => (x.1, fs ++ x.2)
theorem ahd_nil (r : Option (List TimerD × List FiredD)) : ahd [] r = r := by cases r <;> rfl
theorem ahd_cons (fs : List FiredD) (f : FiredD) (r : Option (List TimerD × List FiredD)) : ahd fs (r.map fun x => (x.1, f :: x.2)) = ahd (fs ++ [f]) r := by
  cases r <;> simp [ahd]
def TB (t : TimerD) : Prop := 0 ≤ t.2.1 ∧ t.2.1 ≤ 200000 ∧ 0 ≤ t.2.2.1 ∧ t.2.2.1 ≤ 100000 ∧ 1 ≤ t.2.2.2 ∧ t.2.2.2 ≤ 1000
theorem mem_at {l : List TimerD} {t : TimerD} (h : t ∈ l) : ∃ i, i < l.length ∧ atT l i = t := by
  obtain ⟨i, hi⟩ := List.mem_iff_getElem?.1 h
  exact ⟨i, (List.getElem?_eq_some_iff.1 hi).1, atT_of hi⟩
theorem at_mem {l : List TimerD} {i : Nat} (h : i < l.length) : atT l i ∈ l := List.mem_of_getElem? (atT_some h)
theorem pick_heap {u : Int} {l ps : List TimerD} (hp : l.Perm ps) (hr : Rising l) (hh : Heap (atT ps) ps.length) (h0 : 0 < ps.length) (hu : (atT ps 0).2.1 ≤ u) : ∃ k, pickM u l = some k ∧ k < l.length ∧ atT l k = atT ps 0 := by
  have hm : atT ps 0 ∈ l := hp.mem_iff.2 (at_mem h0)
  obtain ⟨j, hj, hje⟩ := mem_at hm
  cases hk : pickM u l with
  | none =>
    have := pickTo_none hk j hj
    rw [hje] at this
    omega
  | some k =>
    obtain ⟨a1, a2, a3⟩ := pickTo_some hk
    refine ⟨k, rfl, a1, ?_⟩
    have hkm : atT l k ∈ ps := hp.mem_iff.1 (at_mem a1)
    obtain ⟨i, hi, hie⟩ := mem_at hkm
    have hle := heap_min hh i hi
    rw [hie] at hle
    have h3 := a3 j hj (by rw [hje]; exact hu)
    rw [hje] at h3
    unfold LeT at hle
    by_cases hkj : k = j
    · rw [hkj, hje]
    · exfalso
      have hlt : k < j := by omega
      have := hr k j _ _ hlt (atT_some a1) (atT_some hj)
      rw [hje] at this
      omega
theorem pick_empty {u : Int} {l ps : List TimerD} (hp : l.Perm ps) (hh : Heap (atT ps) ps.length) (h : ps.length = 0 ∨ u < (atT ps 0).2.1) : pickM u l = none := by
  cases hk : pickM u l with
  | none => rfl
  | some k =>
    exfalso
    obtain ⟨a1, a2, a3⟩ := pickTo_some hk
    have hkm : atT l k ∈ ps := hp.mem_iff.1 (at_mem a1)
    obtain ⟨i, hi, hie⟩ := mem_at hkm
    have hle := heap_min hh i hi
    rw [hie] at hle
    unfold LeT at hle
    omega
theorem erase_perm {l : List TimerD} {k : Nat} (h : k < l.length) : l.Perm (atT l k :: l.eraseIdx k) := by
  have e : l[k] = atT l k := Option.some.inj ((List.getElem?_eq_getElem h).symm.trans (atT_some h))
  have e2 : l = l.take k ++ (atT l k :: l.drop (k + 1)) := by rw [← e, ← List.drop_eq_getElem_cons h, List.take_append_drop]
  rw [List.eraseIdx_eq_take_drop_succ]
  conv => lhs; rw [e2]
  exact List.perm_middle
theorem set_perm {l : List TimerD} {k : Nat} (h : k < l.length) (t : TimerD) : (l.set k t).Perm (t :: l.eraseIdx k) := by
  have h1 := erase_perm (l := l.set k t) (k := k) (by simpa using h)
  rw [atT_set h, if_pos rfl, List.eraseIdx_set_eq] at h1
  exact h1
theorem next_perm {l ps' ps : List TimerD} {k : Nat} (hk : k < l.length) (hp : l.Perm ps) (hq : (atT l k :: ps').Perm ps) : (nextM l k).Perm (again (atT l k) ++ ps') := by
  have h1 : (l.eraseIdx k).Perm ps' := ((erase_perm hk).symm.trans (hp.trans hq.symm)).cons_inv
  unfold nextM again
  split
  · rename_i hc
    exact (set_perm hk _).trans (h1.cons _)
  · rename_i hc
    exact h1
theorem rising_set {l : List TimerD} {k : Nat} {t : TimerD} (hr : Rising l) (hk : k < l.length) (ht : t.1 = (atT l k).1) : Rising (l.set k t) := by
  intro i j p q hij hi hj
  have h : ∀ (x : Nat) (y : TimerD), (l.set k t)[x]? = some y → ∃ z : TimerD, l[x]? = some z ∧ z.1 = y.1 := fun x y hxy => by
    rcases get_set hxy with ⟨rfl, rfl⟩ | ⟨_, h⟩
    · exact ⟨_, atT_some hk, ht.symm⟩
    · exact ⟨_, h, rfl⟩
  obtain ⟨p', hp', e1⟩ := h i p hi
  obtain ⟨q', hq', e2⟩ := h j q hj
  have := hr i j p' q' hij hp' hq'
  omega
theorem rising_erase {l : List TimerD} (k : Nat) (hr : Rising l) : Rising (l.eraseIdx k) := by
  intro i j p q hij hi hj
  rw [List.getElem?_eraseIdx] at hi hj
  split at hi <;> split at hj
  · exact hr i j p q hij hi hj
  · exact hr i (j + 1) p q (by omega) hi hj
  · omega
  · exact hr (i + 1) (j + 1) p q (by omega) hi hj
theorem next_rising {l : List TimerD} {k : Nat} (hr : Rising l) (hk : k < l.length) : Rising (nextM l k) := by
  unfold nextM
  split
  · exact rising_set hr hk rfl
  · exact rising_erase k hr
theorem next_TB {u : Int} {l : List TimerD} {k : Nat} (hu : u ≤ 100000) (hk : k < l.length) (hb : ∀ t ∈ l, TB t) (hku : (atT l k).2.1 ≤ u) : ∀ t ∈ nextM l k, TB t := by
  intro t ht
  unfold nextM at ht
  split at ht
  · rename_i hc
    simp only [Bool.and_eq_true, decide_eq_true_eq] at hc
    rcases List.mem_or_eq_of_mem_set ht with h | rfl
    · exact hb t h
    · have := hb _ (at_mem hk)
      unfold TB at *
      dsimp only
      omega
  · exact hb t (List.mem_of_mem_eraseIdx ht)
theorem next_len {l : List TimerD} {k : Nat} : (nextM l k).length ≤ l.length := by
  unfold nextM
  split
  · simp
  · rw [List.length_eraseIdx]; split <;> omega
/-- What holds on the way of a run: the heap ps, what was fired fs, the outcome R. -/
def RunInv (u : Int) (R : Option (List TimerD × List FiredD)) (ps : List TimerD) (fs : List FiredD) : Prop :=
  ∃ l, l.Perm ps ∧ Rising l ∧ (∀ t ∈ l, TB t) ∧ (fs.length ≤ 2000 ∧ R = ahd fs (runM u (2000 - fs.length) l) ∨ fs.length = 2001 ∧ R = none)
theorem RunInv.step {u : Int} {R : Option (List TimerD × List FiredD)} {ps ps' ps'' : List TimerD} {fs : List FiredD} (hu : u ≤ 100000) (h : RunInv u R ps fs) (hh : Heap (atT ps) ps.length) (h0 : 0 < ps.length) (hd : (atT ps 0).2.1 ≤ u) (hf : fs.length ≤ 2000) (hq : (atT ps 0 :: ps').Perm ps) (hp : ps''.Perm (again (atT ps 0) ++ ps')) : RunInv u R ps'' (fs ++ [((atT ps 0).2.1, (atT ps 0).1)]) := by
  obtain ⟨l, hl, hr, hb, hR⟩ := h
  obtain ⟨k, hk, hkl, hke⟩ := pick_heap hl hr hh h0 hd
  have hR' : R = ahd fs (runM u (2000 - fs.length) l) := by
    rcases hR with h | h
    · exact h.2
    · omega
  rw [← hke] at hq hp ⊢
  refine ⟨nextM l k, (next_perm hkl hl hq).trans hp.symm, next_rising hr hkl, next_TB hu hkl hb (by rw [hke]; exact hd), ?_⟩
  rw [List.length_append]
  by_cases hf2 : fs.length = 2000
  · right
    refine ⟨by simp [hf2], ?_⟩
    rw [hR', hf2, Nat.sub_self, runM_full hk]
    rfl
  · left
    refine ⟨by simp; omega, ?_⟩
    rw [hR', show 2000 - fs.length = (2000 - (fs.length + 1)) + 1 by omega, runM_some hk, ahd_cons]
    rfl
theorem RunInv.done {u : Int} {R : Option (List TimerD × List FiredD)} {ps : List TimerD} {fs : List FiredD} (h : RunInv u R ps fs) (hh : Heap (atT ps) ps.length) (hs : ¬ (0 < ps.length ∧ (atT ps 0).2.1 ≤ u ∧ fs.length ≤ 2000)) : (fs.length = 2001 ∧ R = none) ∨ (fs.length ≤ 2000 ∧ ∃ l, l.Perm ps ∧ Rising l ∧ R = some (l, fs)) := by
  obtain ⟨l, hl, hr, hb, hR⟩ := h
  rcases hR with ⟨h1, h2⟩ | h
  · right
    refine ⟨h1, l, hl, hr, ?_⟩
    have hn : pickM u l = none := pick_empty hl hh (by omega)
    rw [h2, runM_none hn]
    simp [ahd]
  · exact .inl h

end Go.Proofs.Ythihgjcnjgpegaa
