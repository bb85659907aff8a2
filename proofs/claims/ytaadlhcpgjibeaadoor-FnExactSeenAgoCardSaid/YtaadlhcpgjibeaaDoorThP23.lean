/-
  Things that are good, free of the program.
-/
import Derived.Test.YtaadlhcpgjibeaaDoorThing
import Derived.Test.YtaadlhcpgjibeaaDoorGood23
namespace Go.Proofs.YtaadlhcpgjibeaaDoor
open Go.ChangeShapes Go.WideShapes Go.ChangeAt Go.RowKit

set_option maxRecDepth 100000
set_option linter.unusedVariables false
set_option linter.unusedSimpArgs false

abbrev GoodTP (p : ThingD) : Prop := (0 ≤ p.1 ∧ p.1 ≤ 255) ∧ (0 ≤ p.2.1 ∧ p.2.1 ≤ 1023) ∧ (0 ≤ p.2.2.1 ∧ p.2.2.1 ≤ 1023) ∧ (0 ≤ p.2.2.2 ∧ p.2.2.2 ≤ 127)
/-- The thing at a place is good, and its Id is above the one ahead of it. -/
def ThOk (l : List ThingD) (j : Nat) : Prop := ∀ p, l[j]? = some p → GoodTP p ∧ ∀ q, 0 < j → l[j - 1]? = some q → q.1 < p.1
def ThingsP (l : List ThingD) : Prop := l.length ≤ 40 ∧ ∀ j, j < l.length → ThOk l j
/-- Whether things are good, told place by place. -/
def okB (l : List ThingD) (j : Nat) : Bool := match l[j]? with
  | none => true
  | some p => decide (GoodTP p) && (match l[j - 1]? with
    | none => true
    | some q => decide (j = 0) || decide (q.1 < p.1))
def goodB (l : List ThingD) : Bool := decide (l.length ≤ 40) && (List.range l.length).all (okB l)
theorem okB_iff (l : List ThingD) (j : Nat) : okB l j = true ↔ ThOk l j := by
  unfold okB ThOk
  cases h : l[j]? with
  | none => simp
  | some p =>
    cases h2 : l[j - 1]? with
    | none =>
      simp only [Bool.and_true, decide_eq_true_eq]
      exact ⟨fun h p' e => by cases e; exact ⟨h, fun q _ e => by simp at e⟩, fun h => (h p rfl).1⟩
    | some q =>
      simp only [Bool.and_eq_true, decide_eq_true_eq, Bool.or_eq_true]
      refine ⟨fun h p' e => ?_, fun h => ⟨(h p rfl).1, ?_⟩⟩
      · cases e
        refine ⟨h.1, fun q' hj e => ?_⟩
        cases e
        rcases h.2 with h0 | h0
        · omega
        · exact h0
      · rcases Nat.eq_zero_or_pos j with hj | hj
        · exact .inl hj
        · exact .inr ((h p rfl).2 q hj rfl)
theorem goodB_iff (l : List ThingD) : goodB l = true ↔ ThingsP l := by
  unfold goodB ThingsP
  simp only [Bool.and_eq_true, decide_eq_true_eq, List.all_eq_true, List.mem_range]
  exact ⟨fun h => ⟨h.1, fun j hj => (okB_iff l j).1 (h.2 j hj)⟩, fun h => ⟨h.1, fun j hj => (okB_iff l j).2 (h.2 j hj)⟩⟩
theorem all_more {l : List ThingD} {k : Nat} (h : ∀ j, j < k → ThOk l j) (hk : ThOk l k) : ∀ j, j < k + 1 → ThOk l j := fun j hj => by
  rcases Nat.lt_or_ge j k with h1 | h1
  · exact h j h1
  · have e : j = k := by omega
    subst e
    exact hk

end Go.Proofs.YtaadlhcpgjibeaaDoor
