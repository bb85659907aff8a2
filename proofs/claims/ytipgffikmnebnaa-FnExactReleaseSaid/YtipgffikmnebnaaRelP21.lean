/-
  What is held once less: free of the program.
-/
import Derived.Test.YtipgffikmnebnaaBinP21
import Derived.Test.YtipgffikmnebnaaUse21
namespace Go.Proofs.Ytipgffikmnebnaa
open Go.ChangeShapes Go.WideShapes Go.ChangeAt Go.RowKit

set_option maxRecDepth 100000
set_option linter.unusedVariables false
set_option linter.unusedSimpArgs false

def relP (nm : ByteArray) (r : ResidentD) : Bool := (r.1.toList == nm.toList) && decide (0 < r.2.2.1)
def relAt (nm : ByteArray) (l : List ResidentD) : Option Nat := l.findIdx? (relP nm)
def less1 (l : List ResidentD) (i : Nat) : List ResidentD := match l[i]? with
  | none => l
  | some r => l.set i (r.1, r.2.1, r.2.2.1 - 1, r.2.2.2)
def store0 : StoreD := (0, 0, [])
def relS (c : StoreD) (nm : ByteArray) : StoreD := if storeB c = true then (match relAt nm c.2.2 with | some i => (c.1, c.2.1, less1 c.2.2 i) | none => c) else store0
def relC (c : StoreD) (nm : ByteArray) : Int := if storeB c = true then (match relAt nm c.2.2 with | some _ => 0 | none => 5) else 1
theorem less1_eq {l : List ResidentD} {i : Nat} {r : ResidentD} (h : l[i]? = some r) : less1 l i = l.set i (r.1, r.2.1, r.2.2.1 - 1, r.2.2.2) := by unfold less1; rw [h]
theorem less1_len (l : List ResidentD) (i : Nat) : (less1 l i).length = l.length := by
  unfold less1
  split <;> simp
theorem relS_len (c : StoreD) (nm : ByteArray) : (relS c nm).2.2.length ≤ c.2.2.length := by
  unfold relS
  split
  · split
    · rw [less1_len]; omega
    · omega
  · simp [store0]
/-- Where the name is not there, or not held. -/
theorem rel_no {l : List ResidentD} {nm : ByteArray} (hu : UpR l) (h : foundB nm l = false) : relAt nm l = none := by
  refine idx_no fun j d hj hd => ?_
  obtain ⟨hc, hi⟩ := pos_is hu nm
  unfold relP
  have h1 := hi j d hd
  cases he : (d.1.toList == nm.toList) with
  | false => rfl
  | true =>
    exfalso
    have e := eq_of_beq he
    have hnl : ¬ j < posL nm l := fun h => by have := h1.1 h; rw [e, bl_irr] at this; cases this
    obtain ⟨m, hm⟩ : ∃ m, l[posL nm l]? = some m := ⟨_, List.getElem?_eq_getElem (by omega)⟩
    rw [found_eq hm] at h
    rcases Nat.eq_or_lt_of_le (Nat.le_of_not_lt hnl) with e2 | e2
    · rw [e2, hd] at hm
      cases hm
      rw [he] at h
      cases h
    · have h3 := up_lt hu hm hd e2
      rw [e] at h3
      have := (hi _ m hm).2 h3
      omega
theorem rel_at {l : List ResidentD} {nm : ByteArray} {r : ResidentD} (hu : UpR l) (h : foundB nm l = true) (hr : l[posL nm l]? = some r) : relAt nm l = if 0 < r.2.2.1 then some (posL nm l) else none := by
  obtain ⟨hc, hi⟩ := pos_is hu nm
  have hf := h
  rw [found_eq hr] at hf
  have hne : ∀ j d, l[j]? = some d → j ≠ posL nm l → relP nm d = false := fun j d hd hj => by
    unfold relP
    cases he : (d.1.toList == nm.toList) with
    | false => rfl
    | true =>
      exfalso
      have e := eq_of_beq he
      have e3 := eq_of_beq hf
      rcases Nat.lt_or_gt_of_ne hj with e2 | e2
      · have := up_lt hu hd hr e2; rw [e, e3, bl_irr] at this; cases this
      · have := up_lt hu hr hd e2; rw [e, e3, bl_irr] at this; cases this
  by_cases h0 : 0 < r.2.2.1
  · rw [if_pos h0]
    exact idx_yes (fun j d hj hd => hne j d hd (by omega)) hr (by unfold relP; rw [hf, decide_eq_true h0]; rfl)
  · rw [if_neg h0]
    refine idx_no fun j d hj hd => ?_
    by_cases e : j = posL nm l
    · subst e
      rw [hr] at hd
      cases hd
      unfold relP
      rw [decide_eq_false h0]
      simp
    · exact hne j d hd e

end Go.Proofs.Ytipgffikmnebnaa
