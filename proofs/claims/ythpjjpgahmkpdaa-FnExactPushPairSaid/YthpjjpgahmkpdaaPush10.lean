/-
  Lines, pushes and moves: free of the program.
-/
import Derived.Test.YthpjjpgahmkpdaaBody
namespace Go.Proofs.Ythpjjpgahmkpdaa
open Go.ChangeShapes Go.WideShapes Go.ChangeAt Go.RowKit

set_option maxRecDepth 100000
set_option linter.unusedVariables false
/-- A body is good: place, push, mass, reach. -/
def BodyP (b : BodyD) : Prop := (-1000000000 ≤ b.1 ∧ b.1 ≤ 1000000000) ∧ (-1000000 ≤ b.2.1 ∧ b.2.1 ≤ 1000000) ∧ (0 ≤ b.2.2.1 ∧ b.2.2.1 ≤ 12) ∧ (0 < b.2.2.1 ∨ b.2.1 = 0) ∧ (1 ≤ b.2.2.2 ∧ b.2.2.2 ≤ 1000)
instance (b : BodyD) : Decidable (BodyP b) := inferInstanceAs (Decidable (_ ∧ _))
/-- The left one does not lie in the right one. -/
def Off (a b : BodyD) : Prop := a.1 + a.2.2.2 ≤ b.1 - b.2.2.2
instance (a b : BodyD) : Decidable (Off a b) := inferInstanceAs (Decidable (_ ≤ _))
def OkAt (ps : List BodyD) (j : Nat) : Prop := ∀ b, ps[j]? = some b → BodyP b ∧ ∀ a, 0 < j → ps[j - 1]? = some a → Off a b
def LineP (ps : List BodyD) : Prop := ps.length ≤ 20 ∧ ∀ j, j < ps.length → OkAt ps j
noncomputable instance (ps : List BodyD) : Decidable (LineP ps) := Classical.propDecidable _
theorem LineP.body {ps : List BodyD} (h : LineP ps) {i : Nat} {b : BodyD} (hb : ps[i]? = some b) : BodyP b := (h.2 i (List.getElem?_eq_some_iff.1 hb).1 b hb).1
theorem LineP.off {ps : List BodyD} (h : LineP ps) {i : Nat} {a b : BodyD} (ha : ps[i]? = some a) (hb : ps[i + 1]? = some b) : Off a b := (h.2 (i + 1) (List.getElem?_eq_some_iff.1 hb).1 b hb).2 a (by omega) (by simpa using ha)

/-- The push that stops two, as a fraction: above, below. -/
def stop (a b : BodyD) : Int × Int := if a.2.2.1 = 0 then (-b.2.1, 1) else if b.2.2.1 = 0 then (a.2.1, 1) else (a.2.1 * b.2.2.1 - b.2.1 * a.2.2.1, a.2.2.1 + b.2.2.1)
def jOf (a b : BodyD) (bo : Int) : Int := if a.1 + a.2.2.2 < b.1 - b.2.2.2 ∨ (stop a b).1 ≤ 0 then 0 else ((100 + bo) * (stop a b).1).tdiv (100 * (stop a b).2)
def took (b : BodyD) (j : Int) : BodyD := (b.1, if b.2.2.1 = 0 then b.2.1 else b.2.1 + j, b.2.2.1, b.2.2.2)
def pairM (a b : BodyD) (bo : Int) : BodyD × BodyD := (took a (-(jOf a b bo)), took b (jOf a b bo))
def InP (b : BodyD) : Prop := -1000000 ≤ b.2.1 ∧ b.2.1 ≤ 1000000
instance (b : BodyD) : Decidable (InP b) := inferInstanceAs (Decidable (_ ∧ _))
theorem took_zero (b : BodyD) : took b 0 = b := by
  obtain ⟨x, p, m, r⟩ := b
  simp [took]
theorem took_good {b : BodyD} (h : BodyP b) (j : Int) : BodyP (took b j) ↔ InP (took b j) := by
  obtain ⟨x, p, m, r⟩ := b
  obtain ⟨h1, h2, h3, h4, h5⟩ := h
  dsimp only at h1 h2 h3 h4 h5
  unfold BodyP InP took
  dsimp only
  constructor
  · intro h; exact h.2.1
  · intro h
    refine ⟨h1, h, h3, ?_, h5⟩
    by_cases hm : m = 0
    · rw [if_pos hm]; omega
    · omega
theorem took_off (a b : BodyD) (i j : Int) : Off (took a i) (took b j) ↔ Off a b := Iff.rfl
theorem stop_bd {a b : BodyD} (ha : BodyP a) (hb : BodyP b) : (-24000000 ≤ (stop a b).1 ∧ (stop a b).1 ≤ 24000000) ∧ 1 ≤ (stop a b).2 ∧ (stop a b).2 ≤ 24 := by
  obtain ⟨x, p, m, r⟩ := a
  obtain ⟨x', p', m', r'⟩ := b
  obtain ⟨_, h2, h3, _, _⟩ := ha
  obtain ⟨_, g2, g3, _, _⟩ := hb
  dsimp only at h2 h3 g2 g3
  unfold stop
  dsimp only
  have e1 : -12000000 ≤ p * m' ∧ p * m' ≤ 12000000 := by
    obtain ⟨h2, h2'⟩ := h2
    obtain ⟨g3, g3'⟩ := g3
    have k1 := Int.mul_le_mul_of_nonneg_right h2' g3
    have k2 := Int.mul_le_mul_of_nonneg_right h2 g3
    constructor <;> omega
  have e2 : -12000000 ≤ p' * m ∧ p' * m ≤ 12000000 := by
    obtain ⟨g2, g2'⟩ := g2
    obtain ⟨h3, h3'⟩ := h3
    have k1 := Int.mul_le_mul_of_nonneg_right g2' h3
    have k2 := Int.mul_le_mul_of_nonneg_right g2 h3
    constructor <;> omega
  split
  · dsimp only; omega
  · split <;> dsimp only <;> omega

/-- One push after another: the k-th and the one behind it. -/
def pushAt (ps : List BodyD) (i : Nat) (bo : Int) : List BodyD := match ps[i]?, ps[i + 1]? with
  | some a, some b => (ps.set i (pairM a b bo).1).set (i + 1) (pairM a b bo).2
  | _, _ => ps
theorem pushAt_some {ps : List BodyD} {i : Nat} {a b : BodyD} (ha : ps[i]? = some a) (hb : ps[i + 1]? = some b) (bo : Int) : pushAt ps i bo = (ps.set i (pairM a b bo).1).set (i + 1) (pairM a b bo).2 := by
  unfold pushAt; rw [ha, hb]
theorem pushAt_len (ps : List BodyD) (i : Nat) (bo : Int) : (pushAt ps i bo).length = ps.length := by
  unfold pushAt; split <;> simp
/-- Whether the push leaves both in bounds. -/
def InAt (ps : List BodyD) (i : Nat) (bo : Int) : Prop := ∀ a b, ps[i]? = some a → ps[i + 1]? = some b → InP (pairM a b bo).1 ∧ InP (pairM a b bo).2
/-- A line on the way: as the line was, with pushes in bounds. -/
def Way (ps : List BodyD) : Prop := (∀ (i : Nat) b, ps[i]? = some b → BodyP b) ∧ ∀ (i : Nat) a b, ps[i]? = some a → ps[i + 1]? = some b → Off a b
theorem LineP.way {ps : List BodyD} (h : LineP ps) : Way ps := ⟨fun i b hb => h.body hb, fun i a b ha hb => h.off ha hb⟩
theorem Way.line {ps : List BodyD} (h : Way ps) (hl : ps.length ≤ 20) : LineP ps := ⟨hl, fun j hj b hb => ⟨h.1 j b hb, fun a h0 ha => by
  obtain ⟨k, rfl⟩ : ∃ k, j = k + 1 := ⟨j - 1, by omega⟩
  exact h.2 k a b (by simpa using ha) hb⟩⟩
theorem Way.push {ps : List BodyD} (h : Way ps) {i : Nat} {a b : BodyD} (ha : ps[i]? = some a) (hb : ps[i + 1]? = some b) {bo : Int} (h1 : InP (pairM a b bo).1) (h2 : InP (pairM a b bo).2) : Way (pushAt ps i bo) := by
  rw [pushAt_some ha hb]
  have hi : i < ps.length := (List.getElem?_eq_some_iff.1 ha).1
  have hi' : i + 1 < ps.length := (List.getElem?_eq_some_iff.1 hb).1
  have key : ∀ (j : Nat) (c : BodyD), ((ps.set i (pairM a b bo).1).set (i + 1) (pairM a b bo).2)[j]? = some c → ∃ c' : BodyD, ps[j]? = some c' ∧ c.1 = c'.1 ∧ c.2.2 = c'.2.2 ∧ BodyP c := by
    intro j c hc
    by_cases e1 : i + 1 = j
    · subst e1
      rw [List.getElem?_set_self (by simpa using hi')] at hc
      cases hc
      exact ⟨b, hb, rfl, rfl, (took_good (h.1 _ _ hb) _).2 h2⟩
    · rw [List.getElem?_set_ne e1] at hc
      by_cases e2 : i = j
      · subst e2
        rw [List.getElem?_set_self hi] at hc
        cases hc
        exact ⟨a, ha, rfl, rfl, (took_good (h.1 _ _ ha) _).2 h1⟩
      · rw [List.getElem?_set_ne e2] at hc
        exact ⟨c, hc, rfl, rfl, h.1 _ _ hc⟩
  refine ⟨fun j c hc => (key j c hc).elim fun _ k => k.2.2.2, fun j c d hc hd => ?_⟩
  obtain ⟨c', k1, k2, k3, _⟩ := key j c hc
  obtain ⟨d', g1, g2, g3, _⟩ := key (j + 1) d hd
  have := h.2 j c' d' k1 g1
  unfold Off at *
  rw [k2, k3, g2, g3]
  exact this
/-- The first k pushes of a round: none where one leaves its bounds. -/
noncomputable def roundO (ps : List BodyD) (bo : Int) : Nat → Option (List BodyD)
  | 0 => some ps
  | k + 1 => match roundO ps bo k with
    | none => none
    | some qs => open Classical in if InAt qs k bo then some (pushAt qs k bo) else none
theorem roundO_none {ps : List BodyD} {bo : Int} {k n : Nat} (h : roundO ps bo k = none) (hn : k ≤ n) : roundO ps bo n = none := by
  induction n with
  | zero => have : k = 0 := by omega
            subst this; exact h
  | succ n ih =>
    by_cases e : k = n + 1
    · subst e; exact h
    · simp [roundO, ih (by omega)]
theorem roundO_step {ps qs : List BodyD} {bo : Int} {k : Nat} {a b : BodyD} (h : roundO ps bo k = some qs) (ha : qs[k]? = some a) (hb : qs[k + 1]? = some b) : roundO ps bo (k + 1) = if InP (pairM a b bo).1 ∧ InP (pairM a b bo).2 then some (pushAt qs k bo) else none := by
  have e : InAt qs k bo ↔ InP (pairM a b bo).1 ∧ InP (pairM a b bo).2 := ⟨fun h => h a b ha hb, fun h a' b' ha' hb' => by rw [ha] at ha'; rw [hb] at hb'; cases ha'; cases hb'; exact h⟩
  simp only [roundO, h]
  by_cases c : InAt qs k bo
  · rw [if_pos c, if_pos (e.1 c)]
  · rw [if_neg c, if_neg (fun h => c (e.2 h))]
noncomputable def roundsO (ps : List BodyD) (bo : Int) : Nat → Option (List BodyD)
  | 0 => some ps
  | k + 1 => match roundsO ps bo k with
    | none => none
    | some qs => roundO qs bo (qs.length - 1)
theorem roundsO_none {ps : List BodyD} {bo : Int} {k n : Nat} (h : roundsO ps bo k = none) (hn : k ≤ n) : roundsO ps bo n = none := by
  induction n with
  | zero => have : k = 0 := by omega
            subst this; exact h
  | succ n ih =>
    by_cases e : k = n + 1
    · subst e; exact h
    · simp [roundsO, ih (by omega)]
theorem roundsO_step {ps qs : List BodyD} {bo : Int} {k : Nat} (h : roundsO ps bo k = some qs) : roundsO ps bo (k + 1) = roundO qs bo (qs.length - 1) := by simp only [roundsO, h]
noncomputable def pushA (ps : List BodyD) (bo rounds : Int) : Option (List BodyD) := if LineP ps ∧ (0 ≤ bo ∧ bo ≤ 100) ∧ (0 ≤ rounds ∧ rounds ≤ 50) then roundsO ps bo rounds.toNat else none

/-- Where a body wants to be. -/
def want (t : Int) (b : BodyD) : BodyD := (if b.2.2.1 = 0 then b.1 else b.1 + (b.2.1 * t).tdiv b.2.2.1, b.2)
/-- Kept off the one ahead of it. -/
def offL (a b : BodyD) : BodyD := (if b.2.2.1 = 0 then b.1 else max b.1 (a.1 + a.2.2.2 + b.2.2.2), b.2)
def offR (a b : BodyD) : BodyD := (if b.2.2.1 = 0 then b.1 else min b.1 (a.1 - a.2.2.2 - b.2.2.2), b.2)
def layR (a : BodyD) : List BodyD → List BodyD
  | [] => []
  | b :: bs => offL a b :: layR (offL a b) bs
def rightL : List BodyD → List BodyD
  | [] => []
  | b :: bs => b :: layR b bs
def leftL : List BodyD → List BodyD
  | [] => []
  | b :: bs => match (leftL bs)[0]? with
    | none => b :: leftL bs
    | some a => offR a b :: leftL bs
theorem layR_len (a : BodyD) (ps : List BodyD) : (layR a ps).length = ps.length := by
  induction ps generalizing a with
  | nil => rfl
  | cons b bs ih => simp [layR, ih]
theorem rightL_len (ps : List BodyD) : (rightL ps).length = ps.length := by cases ps <;> simp [rightL, layR_len]
theorem leftL_len (ps : List BodyD) : (leftL ps).length = ps.length := by
  induction ps with
  | nil => rfl
  | cons b bs ih => unfold leftL; split <;> simp [ih]
theorem layR_get (a : BodyD) (ps : List BodyD) (i : Nat) (b c : BodyD) (hb : ps[i + 1]? = some b) (hc : (layR a ps)[i]? = some c) : (layR a ps)[i + 1]? = some (offL c b) := by
  induction ps generalizing a i with
  | nil => simp at hb
  | cons d ds ih =>
    cases i with
    | zero =>
      simp [layR] at hc
      subst hc
      cases ds with
      | nil => simp at hb
      | cons e es => simp at hb; subst hb; simp [layR]
    | succ i => simpa [layR] using ih (offL a d) i (by simpa using hb) (by simpa [layR] using hc)
theorem rightL_zero {ps : List BodyD} : (rightL ps)[0]? = ps[0]? := by cases ps <;> rfl
theorem rightL_get {ps : List BodyD} {i : Nat} {b c : BodyD} (hb : ps[i + 1]? = some b) (hc : (rightL ps)[i]? = some c) : (rightL ps)[i + 1]? = some (offL c b) := by
  cases ps with
  | nil => simp at hb
  | cons d ds =>
    cases i with
    | zero =>
      simp [rightL] at hc
      subst hc
      cases ds with
      | nil => simp at hb
      | cons e es => simp at hb; subst hb; simp [rightL, layR]
    | succ i => simpa [rightL] using layR_get d ds i b c (by simpa using hb) (by simpa [rightL] using hc)
theorem leftL_last {ps : List BodyD} {i : Nat} (h : i + 1 = ps.length) : (leftL ps)[i]? = ps[i]? := by
  induction ps generalizing i with
  | nil => simp at h
  | cons b bs ih =>
    cases i with
    | zero =>
      have : bs = [] := List.eq_nil_of_length_eq_zero (by simpa using h.symm)
      subst this
      rfl
    | succ i =>
      have := ih (i := i) (by simpa using h)
      unfold leftL
      split <;> simpa using this
theorem leftL_get {ps : List BodyD} {i : Nat} {b c : BodyD} (hb : ps[i]? = some b) (hc : (leftL ps)[i + 1]? = some c) : (leftL ps)[i]? = some (offR c b) := by
  induction ps generalizing i with
  | nil => simp at hb
  | cons d ds ih =>
    have e : ∀ k, (leftL (d :: ds))[k + 1]? = (leftL ds)[k]? := by intro k; conv => lhs; unfold leftL
                                                                   split <;> simp
    rw [e] at hc
    cases i with
    | zero =>
      simp at hb
      subst hb
      unfold leftL
      rw [hc]
      simp
    | succ i =>
      rw [e]
      exact ih (by simpa using hb) (by simpa using hc)
noncomputable def moveA (ps : List BodyD) (t : Int) : Option (List BodyD) := if LineP ps ∧ (0 ≤ t ∧ t ≤ 1000) ∧ LineP (leftL (rightL (ps.map (want t)))) then some (leftL (rightL (ps.map (want t)))) else none
noncomputable def stepA (ps : List BodyD) (bo rounds t : Int) : Option (List BodyD) := match pushA ps bo rounds with
  | none => none
  | some qs => moveA qs t
/-- An answer that is there or not: the list and the bool. -/
def lst (o : Option (List BodyD)) : List BodyD := o.getD []

end Go.Proofs.Ythpjjpgahmkpdaa
