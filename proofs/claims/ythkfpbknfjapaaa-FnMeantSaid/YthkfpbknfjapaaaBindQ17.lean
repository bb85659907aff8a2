/-
  Binds as they must be, one behind another; free of the program.
-/
import Derived.Test.YthkfpbknfjapaaaBindP17
namespace Go.Proofs.Ythkfpbknfjapaaa
open Go.ChangeShapes Go.WideShapes Go.ChangeAt Go.RowKit

set_option maxRecDepth 100000
set_option linter.unusedVariables false

theorem bind_next {l : List BindD} {j j' : Nat} {d q : BindD} (hp : l[j]? = some d) (h1 : nameB d.1 = true) (h2 : ChordP d.2) (h4 : hasC (l.take j) d.2 = false) (hj : j = j' + 1) (hq : l[j']? = some q) : BindOk l j ↔ Op.bytesLess q.1.toList d.1.toList = true := by
  constructor
  · intro h
    exact (h _ hp).2.2.1 q (by omega) (by rw [hj]; simpa using hq)
  · intro h y hy
    rw [hp] at hy
    cases hy
    refine ⟨h1, h2, fun a _ ha' => ?_, h4⟩
    rw [hj] at ha'
    simp only [Nat.add_sub_cancel] at ha'
    rw [hq] at ha'
    cases ha'
    exact h
theorem bind_first {l : List BindD} {j : Nat} {d : BindD} (hp : l[j]? = some d) (h1 : nameB d.1 = true) (h2 : ChordP d.2) (h4 : hasC (l.take j) d.2 = false) (hj : ¬ 0 < j) : BindOk l j := fun y hy => by
  rw [hp] at hy
  cases hy
  exact ⟨h1, h2, fun a h => absurd h hj, h4⟩
theorem binds_each {l : List BindD} (h : bindsCost l ≤ 1048576) : l.length ≤ 1048576 ∧ ∀ d ∈ l, d.1.size ≤ 1048576 ∧ d.2.length ≤ 1048576 := by
  refine ⟨by unfold bindsCost at h; omega, fun d hd => ?_⟩
  have := binds_one hd
  unfold bindsOne at this
  omega

end Go.Proofs.Ythkfpbknfjapaaa
