/-
  One pixel of a box.
-/
import Derived.Test.YtoimpkhgdpkhkaaPaint20
namespace Go.Proofs.Ytoimpkhgdpkhkaa
open Go.ChangeShapes Go.WideShapes Go.ChangeAt Go.RowKit

set_option maxRecDepth 100000
set_option linter.unusedVariables false
set_option linter.unusedSimpArgs false

theorem box_step (c : SheetD) (x y a b col : Int) (A B r q : Nat) (hA : c.1 = (A : Int)) (hB : c.2.1 = (B : Int)) (hq : q < A) (hr : r < B) :
    boxN c x y a b col (r * A + q + 1) = if (x ≤ (q : Int) ∧ (q : Int) ≤ x + a - 1) ∧ (y ≤ (r : Int) ∧ (r : Int) ≤ y + b - 1) then putL c.1 c.2.1 (boxN c x y a b col (r * A + q)) q r col else boxN c x y a b col (r * A + q) := by
  have e0 : ((r * A + q : Nat) : Int) = (q : Int) + (r : Int) * c.1 := by rw [hA]; push_cast; omega
  have hc : c.1 ≠ 0 := by omega
  have e1 : ((r * A + q : Nat) : Int) % c.1 = q := by rw [e0, Int.add_mul_emod_self_right]; exact Int.emod_eq_of_lt (by omega) (by omega)
  have e2 : ((r * A + q : Nat) : Int) / c.1 = r := by rw [e0, Int.add_mul_ediv_right _ _ hc, Int.ediv_eq_zero_of_lt (by omega) (by omega)]; omega
  rw [boxN, e1, e2]
  have e3 : putL c.1 c.2.1 (boxN c x y a b col (r * A + q)) q r col = (boxN c x y a b col (r * A + q)).set (r * A + q) col := by
    have h5 : ((r * A + q : Nat) : Int) = (r : Int) * (A : Int) + q := by push_cast; rfl
    have h6 : ((r : Int) * c.1 + (q : Int)).toNat = r * A + q := by rw [hA]; omega
    rw [putL, if_pos ⟨⟨by omega, by omega⟩, ⟨by omega, by omega⟩⟩, h6]
  rw [e3]
  by_cases h : MeetP x y a b q r 1 1
  · rw [if_pos h, if_pos (by simp only [MeetP] at h; omega)]
  · rw [if_neg h, if_neg (by simp only [MeetP] at h; omega)]

end Go.Proofs.Ytoimpkhgdpkhkaa
