/-
  Migrations: small facts that both sides want.
-/
import Derived.Test.YtklgjhemcofhhaaDoorInv22
namespace Go.Proofs.YtklgjhemcofhhaaDoor
open Go.ChangeShapes Go.WideShapes Go.ChangeAt Go.RowKit

set_option maxRecDepth 100000
set_option linter.unusedVariables false
set_option linter.unusedSimpArgs false

def migR (ver : Int) (l : List ValD) (cs : List ChgD) : Option (List ValD) := if (1 ≤ ver ∧ ver ≤ 3) ∧ ValsP l ∧ ChgsP cs then migV ver l cs else none
theorem mig_cons (ver : Int) (l : List ValD) (c : ChgD) (cs : List ChgD) : migV ver l (c :: cs) = if c.1 < ver then migV ver l cs else (stepV l c).bind fun m => migV ver m cs := rfl
theorem by_range {cs : List ChgD} (h : ChgsP cs) {k : Nat} {c : ChgD} (hc : cs[k]? = some c) : -1000000 ≤ c.2.2.2.2 ∧ c.2.2.2.2 ≤ 1000000 := by
  have h1 := h.2 k (List.getElem?_eq_some_iff.1 hc).1
  rw [rowC_eq hc] at h1
  unfold changeB at h1
  simp only [Bool.and_eq_true, decide_eq_true_eq] at h1
  exact ⟨h1.2.2.2.1, h1.2.2.2.2.1⟩
theorem kind_range {cs : List ChgD} (h : ChgsP cs) {k : Nat} {c : ChgD} (hc : cs[k]? = some c) : c.2.1 = 1 ∨ c.2.1 = 2 ∨ c.2.1 = 3 ∨ c.2.1 = 4 ∨ c.2.1 = 5 := by
  have h1 := h.2 k (List.getElem?_eq_some_iff.1 hc).1
  rw [rowC_eq hc] at h1
  unfold changeB at h1
  simp only [Bool.and_eq_true, decide_eq_true_eq] at h1
  have h2 := h1.2.2.2.2.2
  by_cases e1 : c.2.1 = 1
  · exact .inl e1
  · by_cases e4 : c.2.1 = 4
    · exact .inr (.inr (.inr (.inl e4)))
    · rw [if_neg e1, if_neg e4, Bool.and_eq_true, decide_eq_true_eq] at h2
      rcases h2.1 with h | h | h <;> simp [h]
theorem step_new_yes {l : List ValD} {c : ChgD} (h5 : c.2.1 = 5) (ha : atI l c.2.2.1 = -1) (hl : l.length < 30) : stepV l c = some (putL l (c.2.2.1, c.2.2.2.2, empB)) := by
  unfold stepV
  rw [if_pos h5, if_pos (by omega), if_pos (by rw [put_len]; omega)]
theorem step_new_no {l : List ValD} {c : ChgD} (h5 : c.2.1 = 5) (ha : atI l c.2.2.1 = -1) (hl : ¬ l.length < 30) : stepV l c = none := by
  unfold stepV
  rw [if_pos h5, if_pos (by omega), if_neg (by rw [put_len]; omega)]
theorem step_new_old {l : List ValD} {c : ChgD} (h5 : c.2.1 = 5) (ha : 0 ≤ atI l c.2.2.1) : stepV l c = some l := by
  unfold stepV
  rw [if_pos h5, if_neg (by omega)]
theorem step_none {l : List ValD} {c : ChgD} (h5 : c.2.1 ≠ 5) (ha : atI l c.2.2.1 = -1) : stepV l c = some l := by
  unfold stepV
  rw [if_neg h5]
  split
  · rfl
  · rw [if_pos (by omega)]
theorem step_at {l : List ValD} {c : ChgD} {k : Nat} {d : ValD} (h5 : c.2.1 ≠ 5) (ha : atI l c.2.2.1 = k) (hd : l[k]? = some d) : stepV l c =
    (if c.2.1 = 1 then (if 0 ≤ atI l c.2.2.2.1 then none else some (putL (dropL l k) (c.2.2.2.1, d.2.1, d.2.2)))
      else if c.2.1 = 4 then some (dropL l k)
      else (turnL c.2.1 c.2.2.2.2 d.2.1).map fun m => l.set k (d.1, m, d.2.2)) := by
  unfold stepV
  rw [if_neg h5, ha]
  simp only [Int.toNat_natCast, hd]
  rw [if_neg (by omega)]

end Go.Proofs.YtklgjhemcofhhaaDoor
