/-
  The keys that are down; free of the program.
-/
import Derived.Test.YthkfpbknfjapaaaPutP17
namespace Go.Proofs.Ythkfpbknfjapaaa
open Go.ChangeShapes Go.WideShapes Go.ChangeAt Go.RowKit

set_option maxRecDepth 100000
set_option linter.unusedVariables false

/-- The keys that are down behind the first k presses up to a time. -/
def heldK (l : List PressD) (t : Int) : Nat → List Int
  | 0 => []
  | k + 1 => match l[k]? with
    | some d => if d.1 ≤ t then pressL (heldK l t k) d else heldK l t k
    | none => heldK l t k
theorem held_yes {l : List PressD} {t : Int} {k : Nat} {d : PressD} (h : l[k]? = some d) (ht : d.1 ≤ t) : heldK l t (k + 1) = pressL (heldK l t k) d := by simp [heldK, h, ht]
theorem held_no {l : List PressD} {t : Int} {k : Nat} {d : PressD} (h : l[k]? = some d) (ht : ¬ d.1 ≤ t) : heldK l t (k + 1) = heldK l t k := by simp only [heldK, h, if_neg ht]
theorem held_len (l : List PressD) (t : Int) : ∀ k, (heldK l t k).length ≤ k
  | 0 => Nat.le_refl _
  | k + 1 => by
    have := held_len l t k
    unfold heldK
    split
    · split
      · have := press_len (heldK l t k) (by assumption)
        omega
      · omega
    · omega
def HeldOk (l : List PressD) (t : Int) : Prop := PrssP l ∧ (0 ≤ t ∧ t ≤ 100000)
noncomputable def heldA (l : List PressD) (t : Int) : List Int × Bool := if dec (HeldOk l t) then (heldK l t l.length, true) else ([], false)
theorem heldA_no {l : List PressD} {t : Int} (h : ¬ HeldOk l t) : heldA l t = ([], false) := by unfold heldA; rw [dec_no h]; rfl
theorem heldA_yes {l : List PressD} {t : Int} (h : HeldOk l t) : heldA l t = (heldK l t l.length, true) := by unfold heldA; rw [dec_yes h]; rfl
theorem heldA_len (l : List PressD) (t : Int) : (heldA l t).1.length ≤ 200 := by
  rcases Classical.em (HeldOk l t) with h | h
  · rw [heldA_yes h]
    have := held_len l t l.length
    have := h.1.1
    show (heldK l t l.length).length ≤ 200
    omega
  · rw [heldA_no h]
    simp
theorem filt_more {l : List Int} {p : Int → Bool} {k : Nat} {x : Int} (h : l[k]? = some x) : (l.take (k + 1)).filter p = (l.take k).filter p ++ (if p x then [x] else []) := by
  rw [take_snoc h, List.filter_append]
  cases hp : p x <;> simp [hp]

end Go.Proofs.Ythkfpbknfjapaaa
