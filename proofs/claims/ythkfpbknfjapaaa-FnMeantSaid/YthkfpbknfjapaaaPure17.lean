/-
  Meant ones and presses as they must be; free of the program.
-/
import Derived.Test.YthkfpbknfjapaaaLeaf17
import Derived.Test.YthkfpbknfjapaaaMeant
import Derived.Test.YthkfpbknfjapaaaPress
namespace Go.Proofs.Ythkfpbknfjapaaa
open Go.ChangeShapes Go.WideShapes Go.ChangeAt Go.RowKit

set_option maxRecDepth 100000
set_option linter.unusedVariables false

/-- One of the meant ones, one of the presses, as they must be. -/
def MomOk (l : List MeantD) (j : Nat) : Prop := ∀ d, l[j]? = some d → (0 ≤ d.1 ∧ d.1 ≤ 100000) ∧ nameB d.2.1 = true ∧ ∀ q, 0 < j → l[j - 1]? = some q → q.1 ≤ d.1
def MomsP (l : List MeantD) : Prop := l.length ≤ 200 ∧ ∀ j, j < l.length → MomOk l j
def PrsOk (l : List PressD) (j : Nat) : Prop := ∀ d, l[j]? = some d → (0 ≤ d.1 ∧ d.1 ≤ 100000) ∧ (0 ≤ d.2.1 ∧ d.2.1 ≤ 99) ∧ ∀ q, 0 < j → l[j - 1]? = some q → q.1 ≤ d.1
def PrssP (l : List PressD) : Prop := l.length ≤ 200 ∧ ∀ j, j < l.length → PrsOk l j

theorem mom_next {l : List MeantD} {j j' : Nat} {d q : MeantD} (hp : l[j]? = some d) (hj : j = j' + 1) (hq : l[j']? = some q) (h1 : 0 ≤ d.1 ∧ d.1 ≤ 100000) (h2 : nameB d.2.1 = true) : MomOk l j ↔ q.1 ≤ d.1 := by
  constructor
  · intro h
    exact (h _ hp).2.2 q (by omega) (by rw [hj]; simpa using hq)
  · intro h y hy
    rw [hp] at hy
    cases hy
    refine ⟨h1, h2, fun a _ ha' => ?_⟩
    rw [hj] at ha'
    simp only [Nat.add_sub_cancel] at ha'
    rw [hq] at ha'
    cases ha'
    exact h

theorem prs_next {l : List PressD} {j j' : Nat} {d q : PressD} (hp : l[j]? = some d) (hj : j = j' + 1) (hq : l[j']? = some q) (h1 : 0 ≤ d.1 ∧ d.1 ≤ 100000) (h2 : 0 ≤ d.2.1 ∧ d.2.1 ≤ 99) : PrsOk l j ↔ q.1 ≤ d.1 := by
  constructor
  · intro h
    exact (h _ hp).2.2 q (by omega) (by rw [hj]; simpa using hq)
  · intro h y hy
    rw [hp] at hy
    cases hy
    refine ⟨h1, h2, fun a _ ha' => ?_⟩
    rw [hj] at ha'
    simp only [Nat.add_sub_cancel] at ha'
    rw [hq] at ha'
    cases ha'
    exact h

end Go.Proofs.Ythkfpbknfjapaaa
