/-
  What PutBits answers.
-/
import Derived.Test.YtaadlhcpgjibeaaSPut23
namespace Go.Proofs.Ytaadlhcpgjibeaa
open Go.ChangeShapes Go.WideShapes Go.ChangeAt Go.RowKit

set_option maxRecDepth 100000
set_option linter.unusedVariables false
set_option linter.unusedSimpArgs false

abbrev PutP (c : BitsD) (x m : Int) : Prop := BitsP c ∧ (0 ≤ m ∧ m ≤ 32) ∧ (0 ≤ x ∧ x ≤ 2 ^ m.toNat - 1) ∧ c.1 ≤ 4000 - m
/-- What PutBits answers. -/
def putA (c : BitsD) (x m : Int) : BitsD × Bool := if PutP c x m then ((c.1 + m, layM c.1.toNat c.2 x.toNat m.toNat m.toNat), true) else ((0, []), false)
theorem putA_no {c : BitsD} {x m : Int} (h : ¬ PutP c x m) : putA c x m = ((0, []), false) := if_neg h
theorem putA_yes {c : BitsD} {x m : Int} (h : PutP c x m) : putA c x m = ((c.1 + m, layM c.1.toNat c.2 x.toNat m.toNat m.toNat), true) := if_pos h
theorem pow_le32 (m : Nat) (h : m ≤ 32) : 2 ^ m ≤ 4294967296 := Nat.le_trans (Nat.pow_le_pow_right (by omega) h) (by decide)
theorem putA_len (c : BitsD) (x m : Int) (h : c.2.length ≤ 1048576) : (putA c x m).1.2.length ≤ 100000 := by
  rcases Decidable.em (PutP c x m) with hp | hp
  · rw [putA_yes hp]
    obtain ⟨⟨h1, h2, _⟩, h3, _⟩ := hp
    rw [show ((c.1 + m, layM c.1.toNat c.2 x.toNat m.toNat m.toNat), true).1.2 = layM c.1.toNat c.2 x.toNat m.toNat m.toNat from rfl, layM_len _ _ (by omega)]
    omega
  · rw [putA_no hp]; simp

end Go.Proofs.Ytaadlhcpgjibeaa
