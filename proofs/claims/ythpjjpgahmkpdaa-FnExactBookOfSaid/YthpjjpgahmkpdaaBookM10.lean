/-
  What the book of a line says: free of the program.
-/
import Derived.Test.YthpjjpgahmkpdaaPush10
import Derived.Test.YthpjjpgahmkpdaaBook10
namespace Go.Proofs.Ythpjjpgahmkpdaa
open Go.ChangeShapes Go.WideShapes Go.ChangeAt Go.RowKit

set_option maxRecDepth 100000
set_option linter.unusedVariables false
set_option linter.unusedSimpArgs false

/-- The push of all, and the energy in parts of 55440. -/
def pushS (ps : List BodyD) : Int := (ps.map fun b => b.2.1).sum
def partOf (b : BodyD) : Nat := if b.2.2.1 = 0 then 0 else b.2.1.natAbs * b.2.1.natAbs * (55440 / (2 * b.2.2.1.toNat))
def partS (ps : List BodyD) : Nat := (ps.map partOf).sum
theorem pushS_snoc (ps : List BodyD) (b : BodyD) : pushS (ps ++ [b]) = pushS ps + b.2.1 := by simp [pushS]
theorem partS_snoc (ps : List BodyD) (b : BodyD) : partS (ps ++ [b]) = partS ps + partOf b := by simp [partS]
theorem partOf_le {b : BodyD} (h : BodyP b) : partOf b ≤ 1000000 * 1000000 * 27720 := by
  unfold partOf
  split
  · omega
  · have h1 : b.2.1.natAbs ≤ 1000000 := by have := h.2.1; omega
    have h2 : 55440 / (2 * b.2.2.1.toNat) ≤ 27720 := by
      have : 1 ≤ b.2.2.1.toNat := by have := h.2.2.1; omega
      exact Nat.le_trans (Nat.div_le_div_left (Nat.mul_le_mul_left 2 this) (by decide)) (by decide)
    exact Nat.mul_le_mul (Nat.mul_le_mul h1 h1) h2
theorem sums_le {ps : List BodyD} (h : ∀ b ∈ ps, BodyP b) : partS ps ≤ 1000000 * 1000000 * 27720 * ps.length ∧ (-1000000 * (ps.length : Int) ≤ pushS ps ∧ pushS ps ≤ 1000000 * (ps.length : Int)) := by
  induction ps with
  | nil => simp [partS, pushS]
  | cons b ps ih =>
    obtain ⟨i1, i2, i3⟩ := ih (fun c hc => h c (List.mem_cons_of_mem _ hc))
    have hb := h b (List.mem_cons_self)
    have h1 := partOf_le hb
    have h2 := hb.2.1
    have e1 : partS (b :: ps) = partOf b + partS ps := by simp [partS]
    have e2 : pushS (b :: ps) = b.2.1 + pushS ps := by simp [pushS]
    rw [e1, e2, List.length_cons]
    refine ⟨?_, ?_, ?_⟩ <;> omega
theorem sums_take {ps : List BodyD} (h : LineP ps) (k : Nat) : partS (ps.take k) ≤ 554400000000000000 ∧ (-20000000 ≤ pushS (ps.take k) ∧ pushS (ps.take k) ≤ 20000000) := by
  have hl : (ps.take k).length ≤ 20 := by rw [List.length_take]; have := h.1; omega
  obtain ⟨i1, i2, i3⟩ := sums_le (ps := ps.take k) (fun b hb => by
    obtain ⟨i, hi⟩ := List.mem_iff_getElem?.1 (List.mem_of_mem_take hb)
    exact h.body hi)
  refine ⟨?_, ?_, ?_⟩ <;> omega
def bookD (ps : List BodyD) : BookD := (pushS ps, ((partS ps / Nat.gcd (partS ps) 55440 : Nat) : Int), ((55440 / Nat.gcd (partS ps) 55440 : Nat) : Int))
noncomputable def bookA (ps : List BodyD) : BookD × Bool := if LineP ps then (bookD ps, true) else ((0, 0, 0), false)

end Go.Proofs.Ythpjjpgahmkpdaa
