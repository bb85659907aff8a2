/-
  Binds laid anew; free of the program.
-/
import Derived.Test.YthkfpbknfjapaaaBindQ17
namespace Go.Proofs.Ythkfpbknfjapaaa
open Go.ChangeShapes Go.WideShapes Go.ChangeAt Go.RowKit

set_option maxRecDepth 100000
set_option linter.unusedVariables false

def keepB (a : ByteArray) (c : List Int) (d : BindD) : Bool := !(d.1.toList == a.toList) && !decide (d.2 = c)
/-- What the specification has behind k binds: whether the new one is laid, who lost, the list. -/
def rebS (l : List BindD) (a : ByteArray) (c : List Int) : Nat → Bool × ByteArray × List BindD
  | 0 => (false, ⟨#[]⟩, [])
  | k + 1 => match l[k]? with
    | some b =>
      let s := rebS l a c k
      let o := if !s.1 && !less b.1 a then s.2.2 ++ [(a, c)] else s.2.2
      (s.1 || !less b.1 a, if !(b.1.toList == a.toList) && decide (b.2 = c) then b.1 else s.2.1, if keepB a c b then o ++ [b] else o)
    | none => rebS l a c k
/-- What the program has behind k binds. -/
def rebI (l : List BindD) (a : ByteArray) (c : List Int) : Nat → ByteArray × List BindD
  | 0 => (⟨#[]⟩, [(a, c)])
  | k + 1 => match l[k]? with
    | some b => (if !(b.1.toList == a.toList) && decide (b.2 = c) then b.1 else (rebI l a c k).1, if keepB a c b then (rebI l a c k).2 ++ [b] else (rebI l a c k).2)
    | none => rebI l a c k
def rebR (l : List BindD) (a : ByteArray) (c : List Int) : List BindD := if (rebS l a c l.length).1 then (rebS l a c l.length).2.2 else (rebS l a c l.length).2.2 ++ [(a, c)]
theorem reb_lost (l : List BindD) (a : ByteArray) (c : List Int) : ∀ k, (rebS l a c k).2.1 = (rebI l a c k).1
  | 0 => rfl
  | k + 1 => by
    have := reb_lost l a c k
    cases h : l[k]? with
    | none => simp [rebS, rebI, h, this]
    | some b => simp [rebS, rebI, h, this]
theorem rebI_list (l : List BindD) (a : ByteArray) (c : List Int) : ∀ k, (rebI l a c k).2 = (a, c) :: (l.take k).filter (keepB a c)
  | 0 => rfl
  | k + 1 => by
    have ih := rebI_list l a c k
    cases h : l[k]? with
    | none =>
      have hk : l.length ≤ k := by
        rcases Nat.lt_or_ge k l.length with h1 | h1
        · rw [List.getElem?_eq_getElem h1] at h; cases h
        · exact h1
      rw [List.take_of_length_le (by omega)]
      rw [List.take_of_length_le hk] at ih
      simp [rebI, h, ih]
    | some b =>
      have e : (rebI l a c (k + 1)).2 = if keepB a c b then (rebI l a c k).2 ++ [b] else (rebI l a c k).2 := by simp [rebI, h]
      rw [e, take_snoc h, List.filter_append, ih]
      cases hb : keepB a c b <;> simp [hb]
def Ris (l : List BindD) : Prop := ∀ (i j : Nat) (p q : BindD), i < j → l[i]? = some p → l[j]? = some q → less p.1 q.1 = true
theorem binds_ris {l : List BindD} (h : BindsP l) : Ris l := by
  intro i j
  induction j with
  | zero => intro p q hij; omega
  | succ j ih =>
    intro p q hij hp hq
    have hj : j < l.length := by have := (List.getElem?_eq_some_iff.1 hq).1; omega
    obtain ⟨m, hm⟩ : ∃ m, l[j]? = some m := ⟨_, List.getElem?_eq_getElem hj⟩
    have h1 : less m.1 q.1 = true := (h.2 (j + 1) (List.getElem?_eq_some_iff.1 hq).1 q hq).2.2.1 m (by omega) (by simpa using hm)
    by_cases e : i = j
    · subst e
      rw [hp] at hm
      cases hm
      exact h1
    · exact less_trans (ih p m (by omega) hp hm) h1
structure RInv (l : List BindD) (a : ByteArray) (c : List Int) (k : Nat) (s : Bool × ByteArray × List BindD) : Prop where
  perm : s.2.2.Perm ((if s.1 then [(a, c)] else []) ++ (l.take k).filter (keepB a c))
  pw : s.2.2.Pairwise (fun x y => less x.1 y.1 = true)
  no : s.1 = false → ∀ i p, i < k → l[i]? = some p → less p.1 a = true
  yes : s.1 = true → ∀ i p, k ≤ i → l[i]? = some p → less a p.1 = true
theorem less_le {a b c : ByteArray} (h : less b a = false) (h2 : less b c = true) : less a c = true := by
  by_cases e : b = a
  · subst e; exact h2
  · exact less_trans (less_tri h e) h2
theorem pw_snoc {l : List BindD} {b : BindD} (h : l.Pairwise (fun x y => less x.1 y.1 = true)) (hb : ∀ x ∈ l, less x.1 b.1 = true) : (l ++ [b]).Pairwise (fun x y => less x.1 y.1 = true) := by
  rw [List.pairwise_append]
  exact ⟨h, by simp, fun x hx y hy => by simp at hy; subst hy; exact hb x hx⟩
theorem rebS_inv {l : List BindD} (hr : Ris l) (a : ByteArray) (c : List Int) : ∀ k, k ≤ l.length → RInv l a c k (rebS l a c k)
  | 0, _ => ⟨by simp [rebS], List.Pairwise.nil, fun _ i p hi => by omega, fun h => by simp [rebS] at h⟩
  | k + 1, hk => by
    have ih := rebS_inv hr a c k (by omega)
    obtain ⟨b, hb⟩ : ∃ p, l[k]? = some p := ⟨_, List.getElem?_eq_getElem (by omega)⟩
    obtain ⟨put, lost, out⟩ : Bool × ByteArray × List BindD := rebS l a c k
    have hes : ∃ s, rebS l a c k = s := ⟨_, rfl⟩
    obtain ⟨s, hs⟩ := hes
    rw [hs] at ih
    obtain ⟨pt, ls, ot⟩ := s
    obtain ⟨i1, i2, i3, i4⟩ := ih
    dsimp only at i1 i2 i3 i4
    have e : rebS l a c (k + 1) = (pt || !less b.1 a, if !(b.1.toList == a.toList) && decide (b.2 = c) then b.1 else ls, if keepB a c b then (if !pt && !less b.1 a then ot ++ [(a, c)] else ot) ++ [b] else (if !pt && !less b.1 a then ot ++ [(a, c)] else ot)) := by
      simp [rebS, hb, hs]
    rw [e]
    clear e hs
    -- the list ahead of b
    obtain ⟨o1, ho1⟩ : ∃ o, (if !pt && !less b.1 a then ot ++ [(a, c)] else ot) = o := ⟨_, rfl⟩
    rw [ho1]
    have hmem : ∀ x ∈ ot, x = (a, c) ∧ pt = true ∨ ∃ i, i < k ∧ l[i]? = some x := fun x hx => by
      have := i1.mem_iff.1 hx
      rcases List.mem_append.1 this with h | h
      · cases hp : pt with
        | false => rw [hp] at h; simp at h
        | true => rw [hp] at h; simp at h; exact .inl ⟨h, rfl⟩
      · have h2 := (List.mem_filter.1 h).1
        obtain ⟨i, hi⟩ := List.mem_iff_getElem?.1 h2
        rw [List.getElem?_take] at hi
        split at hi
        · rename_i hik; exact .inr ⟨i, hik, hi⟩
        · cases hi
    have hpw1 : o1.Pairwise (fun x y => less x.1 y.1 = true) := by
      rw [← ho1]
      split
      · rename_i hc
        simp at hc
        refine pw_snoc i2 (fun x hx => ?_)
        rcases hmem x hx with ⟨_, h⟩ | ⟨i, hi, hx⟩
        · rw [hc.1] at h; cases h
        · exact i3 hc.1 i x hi hx
      · exact i2
    have hp1 : o1.Perm ((if (pt || !less b.1 a) = true then [(a, c)] else []) ++ (l.take k).filter (keepB a c)) := by
      rw [← ho1]
      cases hp : pt with
      | true => rw [hp] at i1; simpa using i1
      | false =>
        rw [hp] at i1
        cases hl : less b.1 a with
        | true => simpa using i1
        | false =>
          simp only [Bool.not_false, Bool.and_self, if_true, Bool.or_true]
          simp at i1
          exact (i1.append_right _).trans List.perm_append_comm
    have hlt1 : (b.1.toList == a.toList) = false → ∀ x ∈ o1, less x.1 b.1 = true := fun hne x hx => by
      have hba : b.1 ≠ a := fun e => by rw [e] at hne; simp at hne
      have hx' := hp1.mem_iff.1 hx
      rcases List.mem_append.1 hx' with h | h
      · cases hq : (pt || !less b.1 a) with
        | false => rw [hq] at h; simp at h
        | true =>
          rw [hq] at h
          simp at h
          subst h
          simp at hq
          rcases hq with hq | hq
          · exact i4 hq k b (Nat.le_refl _) hb
          · exact less_tri hq hba
      · have h2 := (List.mem_filter.1 h).1
        obtain ⟨i, hi⟩ := List.mem_iff_getElem?.1 h2
        rw [List.getElem?_take] at hi
        split at hi
        · rename_i hik; exact hr i k x b hik hi hb
        · cases hi
    refine ⟨?_, ?_, fun hp i p hi hpi => ?_, fun hp i p hi hpi => ?_⟩
    · show (if keepB a c b = true then o1 ++ [b] else o1).Perm _
      rw [take_snoc hb, List.filter_append]
      cases hk2 : keepB a c b with
      | true =>
        simp only [if_true, List.filter_cons, hk2, List.filter_nil]
        rw [← List.append_assoc]
        exact hp1.append_right _
      | false => simpa [hk2] using hp1
    · show (if keepB a c b = true then o1 ++ [b] else o1).Pairwise _
      split
      · rename_i hkb
        unfold keepB at hkb
        simp at hkb
        refine pw_snoc hpw1 (hlt1 (by simpa using hkb.1))
      · exact hpw1
    · dsimp only at hp
      simp at hp
      by_cases e : i = k
      · subst e
        rw [hb] at hpi
        cases hpi
        exact hp.2
      · exact i3 hp.1 i p (by omega) hpi
    · dsimp only at hp
      simp at hp
      rcases hp with hp | hp
      · exact i4 hp i p (by omega) hpi
      · exact less_le hp (hr k i b p (by omega) hb hpi)
theorem rebR_spec {l : List BindD} (hr : Ris l) (a : ByteArray) (c : List Int) : (rebR l a c).Perm (rebI l a c l.length).2 ∧ (rebR l a c).Pairwise (fun x y => less x.1 y.1 = true) := by
  have h := rebS_inv hr a c l.length (Nat.le_refl _)
  rw [rebI_list, List.take_length]
  unfold rebR
  obtain ⟨s, hs⟩ : ∃ s, rebS l a c l.length = s := ⟨_, rfl⟩
  rw [hs] at h ⊢
  obtain ⟨i1, i2, i3, i4⟩ := h
  rw [List.take_length] at i1
  cases hp : s.1 with
  | true =>
    rw [hp] at i1
    simp only [if_true]
    exact ⟨by simpa using i1, i2⟩
  | false =>
    rw [hp] at i1
    simp at i1
    simp only [Bool.false_eq_true, if_false]
    refine ⟨(i1.append_right _).trans List.perm_append_comm, pw_snoc i2 (fun x hx => ?_)⟩
    have h2 := (List.mem_filter.1 (i1.mem_iff.1 hx)).1
    obtain ⟨i, hi⟩ := List.mem_iff_getElem?.1 h2
    exact i3 hp i x (List.getElem?_eq_some_iff.1 hi).1 hi
theorem rebR_mem {l : List BindD} (hr : Ris l) (a : ByteArray) (c : List Int) : ∀ d, d ∈ rebR l a c ↔ d = (a, c) ∨ (d ∈ l ∧ keepB a c d = true) := fun d => by
  rw [(rebR_spec hr a c).1.mem_iff, rebI_list, List.take_length, List.mem_cons, List.mem_filter]
theorem rebR_len {l : List BindD} (hr : Ris l) (a : ByteArray) (c : List Int) : (rebR l a c).length ≤ l.length + 1 := by
  rw [(rebR_spec hr a c).1.length_eq, rebI_list, List.take_length, List.length_cons]
  have := List.length_filter_le (keepB a c) l
  omega
theorem rebS_len (l : List BindD) (a : ByteArray) (c : List Int) : ∀ k, (rebS l a c k).2.2.length ≤ 2 * k
  | 0 => Nat.le_refl _
  | k + 1 => by
    have := rebS_len l a c k
    cases h : l[k]? with
    | none => simp only [rebS, h]; omega
    | some b =>
      simp only [rebS, h]
      obtain ⟨o, ho⟩ : ∃ o, (if (!(rebS l a c k).1 && !less b.1 a) = true then (rebS l a c k).2.2 ++ [(a, c)] else (rebS l a c k).2.2) = o := ⟨_, rfl⟩
      have hl : o.length ≤ (rebS l a c k).2.2.length + 1 := by
        rw [← ho]
        split <;> simp
      rw [ho]
      split <;> simp <;> omega
theorem rebI_len (l : List BindD) (a : ByteArray) (c : List Int) (k : Nat) (hk : k ≤ l.length) : (rebI l a c k).2.length ≤ k + 1 := by
  rw [rebI_list, List.length_cons]
  have := List.length_filter_le (keepB a c) (l.take k)
  rw [List.length_take] at this
  omega
def RebOk (l : List BindD) (a : ByteArray) (c : List Int) : Prop := BindsP l ∧ BindsP (rebR l a c)
theorem rebOk_name {l : List BindD} {a : ByteArray} {c : List Int} (h : RebOk l a c) : nameB a = true ∧ ChordP c := by
  have hm : (a, c) ∈ rebR l a c := (rebR_mem (binds_ris h.1) a c _).2 (.inl rfl)
  obtain ⟨i, hi⟩ := List.mem_iff_getElem?.1 hm
  have := h.2.2 i (List.getElem?_eq_some_iff.1 hi).1 _ hi
  exact ⟨this.1, this.2.1⟩
noncomputable def rebA (l : List BindD) (a : ByteArray) (c : List Int) : List BindD × ByteArray × Bool := if dec (RebOk l a c) then (rebR l a c, (rebS l a c l.length).2.1, true) else ([], ⟨#[]⟩, false)
theorem rebA_no {l : List BindD} {a : ByteArray} {c : List Int} (h : ¬ RebOk l a c) : rebA l a c = ([], ⟨#[]⟩, false) := by unfold rebA; rw [dec_no h]; rfl
theorem rebA_yes {l : List BindD} {a : ByteArray} {c : List Int} (h : RebOk l a c) : rebA l a c = (rebR l a c, (rebS l a c l.length).2.1, true) := by unfold rebA; rw [dec_yes h]; rfl

end Go.Proofs.Ythkfpbknfjapaaa
