/-
  Keys that are down, rising; free of the program.
-/
import Derived.Test.YthkfpbknfjapaaaHeldP17
namespace Go.Proofs.Ythkfpbknfjapaaa
open Go.ChangeShapes Go.WideShapes Go.ChangeAt Go.RowKit

set_option maxRecDepth 100000
set_option linter.unusedVariables false

theorem mem_put (x k : Int) : ∀ l : List Int, k ∈ putL l x ↔ k = x ∨ k ∈ l
  | [] => by simp [putL]
  | y :: r => by
    have := mem_put x k r
    unfold putL
    split
    · rw [List.mem_cons, this, List.mem_cons]
      constructor
      · rintro (h | h | h) <;> simp [h]
      · rintro (h | h | h) <;> simp [h]
    · split
      · rename_i h
        rw [List.mem_cons]
        constructor
        · intro h'; exact .inr h'
        · rintro (h' | h')
          · exact .inl (h'.trans h.symm)
          · exact h'
      · simp
def Rises (l : List Int) : Prop := l.Pairwise (· < ·)
theorem rises_put (x : Int) : ∀ l : List Int, Rises l → Rises (putL l x)
  | [], _ => by simp [putL, Rises]
  | y :: r, h => by
    have hr : Rises r := (List.pairwise_cons.1 h).2
    have hy := (List.pairwise_cons.1 h).1
    have := rises_put x r hr
    unfold putL
    split
    · rename_i hlt
      refine List.pairwise_cons.2 ⟨fun z hz => ?_, this⟩
      rcases (mem_put x z r).1 hz with rfl | hz
      · exact hlt
      · exact hy z hz
    · rename_i hlt
      split
      · exact h
      · rename_i hne
        refine List.pairwise_cons.2 ⟨fun z hz => ?_, h⟩
        rcases List.mem_cons.1 hz with rfl | hz
        · omega
        · have := hy z hz
          omega
theorem rises_press (h : List Int) (d : PressD) (hr : Rises h) : Rises (pressL h d) := by
  unfold pressL
  split
  · exact rises_put _ _ hr
  · exact List.Pairwise.filter _ hr
theorem rises_held (l : List PressD) (t : Int) : ∀ k, Rises (heldK l t k)
  | 0 => List.Pairwise.nil
  | k + 1 => by
    have := rises_held l t k
    unfold heldK
    split
    · split
      · exact rises_press _ _ this
      · exact this
    · exact this
theorem mem_press (h : List Int) (t0 ky : Int) (dn : Bool) (k : Int) : k ∈ pressL h (t0, ky, dn) ↔ (if dn then k = ky ∨ k ∈ h else k ∈ h ∧ k ≠ ky) := by
  unfold pressL
  cases dn with
  | true => exact mem_put _ _ _
  | false =>
    show k ∈ h.filter (fun k => k != ky) ↔ _
    rw [List.mem_filter]
    simp
/-- All keys of a chord are down. -/
def allK (c h : List Int) : Bool := c.all fun k => decide (k ∈ h)
theorem allK_yes {c h : List Int} (H : ∀ j k, j < c.length → c[j]? = some k → k ∈ h) : allK c h = true := by
  unfold allK
  rw [List.all_eq_true]
  intro k hk
  obtain ⟨j, hj⟩ := List.mem_iff_getElem?.1 hk
  exact decide_eq_true (H j k (List.getElem?_eq_some_iff.1 hj).1 hj)
theorem allK_no {c h : List Int} {j : Nat} {k : Int} (hj : c[j]? = some k) (hk : ¬ k ∈ h) : allK c h = false := by
  unfold allK
  rw [List.all_eq_false]
  exact ⟨k, List.mem_of_getElem? hj, by simpa using hk⟩

end Go.Proofs.Ythkfpbknfjapaaa
