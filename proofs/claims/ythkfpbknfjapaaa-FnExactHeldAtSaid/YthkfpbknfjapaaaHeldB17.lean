/-
  Keys that are down are keys; free of the program.
-/
import Derived.Test.YthkfpbknfjapaaaMapP17
namespace Go.Proofs.Ythkfpbknfjapaaa
open Go.ChangeShapes Go.WideShapes Go.ChangeAt Go.RowKit

set_option maxRecDepth 100000
set_option linter.unusedVariables false

theorem put_bd {x : Int} (hx : 0 ≤ x ∧ x ≤ 99) {l : List Int} (hl : ∀ k ∈ l, 0 ≤ k ∧ k ≤ 99) : ∀ k ∈ putL l x, 0 ≤ k ∧ k ≤ 99 := fun k hk => by
  rcases (mem_put x k l).1 hk with rfl | h
  · exact hx
  · exact hl k h
theorem press_bd {d : PressD} (hd : 0 ≤ d.2.1 ∧ d.2.1 ≤ 99) {l : List Int} (hl : ∀ k ∈ l, 0 ≤ k ∧ k ≤ 99) : ∀ k ∈ pressL l d, 0 ≤ k ∧ k ≤ 99 := by
  unfold pressL
  split
  · exact put_bd hd hl
  · exact fun k hk => hl k (List.mem_filter.1 hk).1
theorem prss_key {l : List PressD} (h : PrssP l) {k : Nat} {d : PressD} (hd : l[k]? = some d) : 0 ≤ d.2.1 ∧ d.2.1 ≤ 99 := (h.2 k (List.getElem?_eq_some_iff.1 hd).1 d hd).2.1
theorem held_bd {l : List PressD} (h : PrssP l) (t : Int) : ∀ k, ∀ x ∈ heldK l t k, 0 ≤ x ∧ x ≤ 99
  | 0 => fun x hx => by simp [heldK] at hx
  | k + 1 => by
    have := held_bd h t k
    unfold heldK
    split
    · rename_i d hd
      split
      · exact press_bd (prss_key h hd) this
      · exact this
    · exact this

end Go.Proofs.Ythkfpbknfjapaaa
