/-
  What comes first; swaps in a list; free of the program.
-/
import Derived.Test.YtaofilinejanjaaLeaf18
namespace Go.Proofs.Ytaofilinejanjaa
open Go.ChangeShapes Go.WideShapes Go.ChangeAt Go.RowKit

set_option maxRecDepth 100000
set_option linter.unusedVariables false

/-- What comes first: the greater rest, of the same rest the earlier one. -/
def bef (r : Int → Int) (x y : Int) : Prop := r y < r x ∨ (r x = r y ∧ x < y)
theorem bef_trans {r : Int → Int} {x y z : Int} (h1 : bef r x y) (h2 : bef r y z) : bef r x z := by unfold bef at *; omega
theorem bef_asymm {r : Int → Int} {x y : Int} (h : bef r x y) : ¬ bef r y x := by unfold bef at *; omega
theorem bef_total {r : Int → Int} {x y : Int} (h : x ≠ y) : bef r x y ∨ bef r y x := by unfold bef; omega
abbrev Srt (r : Int → Int) (l : List Int) : Prop := l.Pairwise (bef r)
theorem set_mid (U V : List Int) (x y : Int) : (U ++ x :: V).set U.length y = U ++ y :: V := by
  rw [List.set_append_right _ _ (Nat.le_refl _), Nat.sub_self]
  rfl
theorem swap_up (U M V : List Int) (x y : Int) : ((U ++ x :: (M ++ y :: V)).set U.length y).set (U.length + 1 + M.length) x = U ++ y :: (M ++ x :: V) := by
  rw [set_mid]
  have e : U ++ y :: (M ++ y :: V) = (U ++ y :: M) ++ y :: V := by simp
  rw [e, show U.length + 1 + M.length = (U ++ y :: M).length by simp; omega, set_mid]
  simp
theorem swap_down (U M V : List Int) (x y : Int) : ((U ++ x :: (M ++ y :: V)).set (U.length + 1 + M.length) x).set U.length y = U ++ y :: (M ++ x :: V) := by
  have e : U ++ x :: (M ++ y :: V) = (U ++ x :: M) ++ y :: V := by simp
  rw [e, show U.length + 1 + M.length = (U ++ x :: M).length by simp; omega, set_mid]
  have e2 : (U ++ x :: M) ++ x :: V = U ++ x :: (M ++ x :: V) := by simp
  rw [e2, set_mid]
theorem at_first (U W : List Int) (x : Int) : (U ++ x :: W)[U.length]? = some x := by simp
theorem at_second (U M V : List Int) (x y : Int) : (U ++ x :: (M ++ y :: V))[U.length + 1 + M.length]? = some y := by
  have e : U ++ x :: (M ++ y :: V) = (U ++ x :: M) ++ y :: V := by simp
  rw [e, show U.length + 1 + M.length = (U ++ x :: M).length by simp; omega, at_first]
theorem swap_perm (U M V : List Int) (x y : Int) : (U ++ y :: (M ++ x :: V)).Perm (U ++ x :: (M ++ y :: V)) := by
  refine List.Perm.append_left U ?_
  have h1 : (y :: (M ++ x :: V)).Perm (y :: x :: (M ++ V)) := List.Perm.cons _ List.perm_middle
  have h2 : (x :: (M ++ y :: V)).Perm (x :: y :: (M ++ V)) := List.Perm.cons _ List.perm_middle
  exact h1.trans ((List.Perm.swap x y _).trans h2.symm)

end Go.Proofs.Ytaofilinejanjaa
