/-
  Buses into buses and into the master, free of the program: what becomes infinite stays so up to the master.
-/
import Derived.Test.YtghmnhohdbombaaBus16
import Derived.Test.YtghmnhohdbombaaFil16
namespace Go.Proofs.Ytghmnhohdbombaa
open Ieee

def intoOf (p : BusD) : Int := p.2.2.2.2.2.2
def filtOf (p : BusD) : FilterD := (p.2.1, p.2.2.1, p.2.2.2.1, p.2.2.2.2.1, p.2.2.2.2.2.1)
def yB (p : BusD) (c : Option Nat) : Option Nat := opN .add (opN .mul (nrm p.2.1) (opN .mul c (nrm p.1))) (some 0)
/-- What lies at the buses, what each gave, and the master. -/
abbrev BSt := List (Option Nat) × List (Option Nat) × Option Nat
def atB (s : BSt) (j : Nat) : Option Nat := s.1.getD j none
def stepB (p : BusD) (k : Nat) (s : BSt) : BSt :=
  if intoOf p = -1 then (s.1, s.2.1 ++ [yB p (atB s k)], opN .add s.2.2 (yB p (atB s k)))
  else (s.1.set (intoOf p).toNat (opN .add (atB s (intoOf p).toNat) (yB p (atB s k))), s.2.1 ++ [yB p (atB s k)], s.2.2)
def busS (l : List BusD) (ins : List Nat) : Nat → BSt
  | 0 => (ins.map nrm, [], some 0)
  | k + 1 => match l[k]? with
    | some p => stepB p k (busS l ins k)
    | none => busS l ins k
def goodI (n k : Nat) (i : Int) : Bool := decide (i = -1) || (decide ((k : Int) < i) && decide (i < (n : Int)))
def goodB1 (n k : Nat) (p : BusD) : Bool := good p.1 && goodF (filtOf p) && goodI n k (intoOf p)
def goodBs (l : List BusD) : Prop := l.length ≤ 8 ∧ ∀ k p, l[k]? = some p → goodB1 l.length k p = true
def okB (l : List BusD) (ins : List Nat) (k : Nat) : Prop := ∀ j p, j < k → l[j]? = some p → finO (atB (busS l ins j) j) = true ∧ finO (yB p (atB (busS l ins j) j)) = true

theorem busS_succ {l : List BusD} {ins : List Nat} {k : Nat} {p : BusD} (h : l[k]? = some p) : busS l ins (k + 1) = stepB p k (busS l ins k) := by
  simp only [busS, h]
theorem step_len (p : BusD) (k : Nat) (s : BSt) : (stepB p k s).1.length = s.1.length ∧ (stepB p k s).2.1.length = s.2.1.length + 1 := by
  unfold stepB
  split <;> simp
theorem busS_len (l : List BusD) (ins : List Nat) : ∀ k, k ≤ l.length → (busS l ins k).1.length = ins.length ∧ (busS l ins k).2.1.length = k := by
  intro k
  induction k with
  | zero => intro _; simp [busS]
  | succ k ih =>
    intro hk
    obtain ⟨p, hp⟩ : ∃ p, l[k]? = some p := ⟨_, List.getElem?_eq_getElem (by omega)⟩
    rw [busS_succ hp]
    have := step_len p k (busS l ins k)
    have := ih (by omega)
    omega
theorem yB_bad (p : BusD) (c : Option Nat) (h : finO c = false) : finO (yB p c) = false := add_bad (.inl (mul_bad (.inr (mul_bad (.inl h)))))
theorem yB_plain (p : BusD) (c : Option Nat) : Plain (yB p c) := opN_plain' (fun x h => by cases h; omega) (fun x h => by cases h; omega)
/-- Something that is not finite is on its way. -/
def Poison (n : Nat) (s : BSt) (k : Nat) : Prop := (∃ j, k ≤ j ∧ j < n ∧ finO (atB s j) = false) ∨ finO s.2.2 = false
theorem step_poison {n k : Nat} {p : BusD} {s : BSt} (hl : s.1.length = n) (hk : k < n) (hg : goodI n k (intoOf p) = true) (h : finO (yB p (atB s k)) = false ∨ Poison n s k) : Poison n (stepB p k s) (k + 1) := by
  have hy : finO (yB p (atB s k)) = false → Poison n (stepB p k s) (k + 1) := by
    intro hy
    unfold stepB
    simp only [goodI, Bool.or_eq_true, Bool.and_eq_true, decide_eq_true_eq] at hg
    by_cases hi : intoOf p = -1
    · rw [if_pos hi]
      exact .inr (add_bad (.inr hy))
    · rw [if_neg hi]
      have hg2 := hg.resolve_left hi
      refine .inl ⟨(intoOf p).toNat, by omega, by omega, ?_⟩
      simp only [atB, List.getD_eq_getElem?_getD]
      rw [List.getElem?_set_self (by omega)]
      exact add_bad (.inr hy)
  rcases h with h | h
  · exact hy h
  · rcases h with ⟨j, hj1, hj2, hj⟩ | h
    · by_cases e : j = k
      · subst e; exact hy (yB_bad p _ hj)
      · unfold stepB
        by_cases hi : intoOf p = -1
        · rw [if_pos hi]
          exact .inl ⟨j, by omega, hj2, hj⟩
        · rw [if_neg hi]
          refine .inl ⟨j, by omega, hj2, ?_⟩
          by_cases e2 : (intoOf p).toNat = j
          · simp only [atB, List.getD_eq_getElem?_getD]
            rw [e2, List.getElem?_set_self (by omega)]
            exact add_bad (.inl hj)
          · simp only [atB, List.getD_eq_getElem?_getD] at hj ⊢
            rw [List.getElem?_set_ne e2]
            exact hj
    · refine .inr ?_
      unfold stepB
      by_cases hi : intoOf p = -1
      · rw [if_pos hi]; exact add_bad (.inl h)
      · rw [if_neg hi]; exact h
theorem poison_on {l : List BusD} {ins : List Nat} (hg : goodBs l) (hi : ins.length = l.length) : ∀ d k, k + d = l.length → Poison l.length (busS l ins k) k → finO (busS l ins l.length).2.2 = false := by
  intro d
  induction d with
  | zero =>
    intro k hk hp
    obtain rfl : k = l.length := by omega
    rcases hp with ⟨j, h1, h2, _⟩ | h
    · omega
    · exact h
  | succ d ih =>
    intro k hk hp
    obtain ⟨p, hpk⟩ : ∃ p, l[k]? = some p := ⟨_, List.getElem?_eq_getElem (by omega)⟩
    have hgi : goodI l.length k (intoOf p) = true := by have := hg.2 k p hpk; simp only [goodB1, Bool.and_eq_true] at this; exact this.2
    refine ih (k + 1) (by omega) ?_
    rw [busS_succ hpk]
    exact step_poison (by rw [(busS_len l ins k (by omega)).1, hi]) (by omega) hgi (.inr hp)
/-- A bus whose float is not finite spoils the master. -/
theorem bad_master {l : List BusD} {ins : List Nat} (hg : goodBs l) (hi : ins.length = l.length) {k : Nat} {p : BusD} (hp : l[k]? = some p) (h : finO (atB (busS l ins k) k) = false ∨ finO (yB p (atB (busS l ins k) k)) = false) : finO (busS l ins l.length).2.2 = false := by
  have hk : k < l.length := (List.getElem?_eq_some_iff.1 hp).1
  have hgi : goodI l.length k (intoOf p) = true := by have := hg.2 k p hp; simp only [goodB1, Bool.and_eq_true] at this; exact this.2
  refine poison_on hg hi (l.length - (k + 1)) (k + 1) (by omega) ?_
  rw [busS_succ hp]
  exact step_poison (by rw [(busS_len l ins k (by omega)).1, hi]) hk hgi (.inl (h.elim (yB_bad p _) id))
theorem ok_all {l : List BusD} {ins : List Nat} (hg : goodBs l) (hi : ins.length = l.length) (h : finO (busS l ins l.length).2.2 = true) : okB l ins l.length := by
  intro j p hj hp
  constructor
  · cases e : finO (atB (busS l ins j) j) with
    | true => rfl
    | false => rw [bad_master hg hi hp (.inl e)] at h; cases h
  · cases e : finO (yB p (atB (busS l ins j) j)) with
    | true => rfl
    | false => rw [bad_master hg hi hp (.inr e)] at h; cases h
theorem master_plain (l : List BusD) (ins : List Nat) : ∀ k, Plain (busS l ins k).2.2 ∧ ∀ x, (busS l ins k).2.2 = some x → x < 18446744073709551616 := by
  intro k
  induction k with
  | zero => exact ⟨fun x h => by cases h; omega, fun x h => by cases h; omega⟩
  | succ k ih =>
    simp only [busS]
    split
    · unfold stepB
      split
      · exact ⟨opN_plain ih.2 ih.1, fun x h => (opN_lt h).1⟩
      · exact ih
    · exact ih
theorem outs_plain (l : List BusD) (ins : List Nat) : ∀ k, ∀ o ∈ (busS l ins k).2.1, Plain o := by
  intro k
  induction k with
  | zero => simp [busS]
  | succ k ih =>
    simp only [busS]
    split
    · unfold stepB
      split
      · intro o ho
        rcases List.mem_append.1 ho with h | h
        · exact ih o h
        · rw [List.mem_singleton.1 h]; exact yB_plain _ _
      · intro o ho
        rcases List.mem_append.1 ho with h | h
        · exact ih o h
        · rw [List.mem_singleton.1 h]; exact yB_plain _ _
    · exact ih
theorem outs_get (l : List BusD) (ins : List Nat) : ∀ k, k ≤ l.length → ∀ j p, j < k → l[j]? = some p → (busS l ins k).2.1[j]? = some (yB p (atB (busS l ins j) j)) := by
  intro k
  induction k with
  | zero => intro _ j p h; omega
  | succ k ih =>
    intro hk j p hj hp
    obtain ⟨q, hq⟩ : ∃ p, l[k]? = some p := ⟨_, List.getElem?_eq_getElem (by omega)⟩
    have hl := (busS_len l ins k (by omega)).2
    rw [busS_succ hq]
    have e : (stepB q k (busS l ins k)).2.1 = (busS l ins k).2.1 ++ [yB q (atB (busS l ins k) k)] := by unfold stepB; split <;> rfl
    rw [e]
    by_cases h : j < k
    · rw [List.getElem?_append_left (by omega)]
      exact ih (by omega) j p h hp
    · obtain rfl : j = k := by omega
      rw [hq] at hp; cases hp
      rw [List.getElem?_append_right (by omega), hl, Nat.sub_self]
      rfl
def busR (l : List BusD) (ins : List Nat) : List Nat × Nat × Bool := if finO (busS l ins l.length).2.2 then ((busS l ins l.length).2.1.map plainO, plainO (busS l ins l.length).2.2, true) else ([], 0, false)
end Go.Proofs.Ytghmnhohdbombaa
