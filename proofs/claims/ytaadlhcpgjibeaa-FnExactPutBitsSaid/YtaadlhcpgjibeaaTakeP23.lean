/-
  Bits of bytes as numbers.
-/
import Derived.Test.YtaadlhcpgjibeaaBits
import Derived.Laws.BitsAllLaws
namespace Go.Proofs.Ytaadlhcpgjibeaa
open Go.ChangeShapes Go.WideShapes Go.ChangeAt Go.RowKit

set_option maxRecDepth 100000
set_option linter.unusedVariables false
set_option linter.unusedSimpArgs false

/-- The bit at a place, the highest of a byte first. -/
def bitAt (l : List UInt8) (k : Nat) : Nat := (l[k / 8]?.getD 0).toNat / 2 ^ (7 - k % 8) % 2
/-- The number that so many bits from a place on tell. -/
def takeN (l : List UInt8) (a : Nat) : Nat → Nat
  | 0 => 0
  | j + 1 => 2 * takeN l a j + bitAt l (a + j)
theorem bitAt_lt (l : List UInt8) (k : Nat) : bitAt l k < 2 := Nat.mod_lt _ (by omega)
theorem takeN_lt (l : List UInt8) (a : Nat) : ∀ j, takeN l a j < 2 ^ j
  | 0 => by simp [takeN]
  | j + 1 => by
    have h1 := takeN_lt l a j
    have h2 := bitAt_lt l (a + j)
    rw [takeN, Nat.pow_succ]
    omega
theorem takeN_le (l : List UInt8) (a j m : Nat) (hj : j ≤ m) (hm : m ≤ 32) : takeN l a j < 4294967296 := Nat.lt_of_lt_of_le (takeN_lt l a j) (Nat.le_trans (Nat.pow_le_pow_right (by omega) hj) (Nat.le_trans (Nat.pow_le_pow_right (by omega) hm) (by decide)))
theorem byte_at {l : List UInt8} {k : Nat} (h : k < 8 * l.length) : ∃ x, l[k / 8]? = some x ∧ bitAt l k = x.toNat / 2 ^ (7 - k % 8) % 2 := by
  have hn : k / 8 < l.length := by omega
  exact ⟨l[k / 8], List.getElem?_eq_getElem hn, by rw [bitAt, List.getElem?_eq_getElem hn]; rfl⟩
theorem u8_bit (x : UInt8) (k : Nat) : bits .and .u8 ((x.toNat : Int) / 2 ^ k) 1 = ((x.toNat / 2 ^ k % 2 : Nat) : Int) := by
  have hx := x.toNat_lt
  have e : ((x.toNat : Int) / 2 ^ k) = ((x.toNat / 2 ^ k : Nat) : Int) := by simp
  have h2 : x.toNat / 2 ^ k ≤ x.toNat := Nat.div_le_self _ _
  rw [e, show (1 : Int) = ((1 : Nat) : Int) from rfl, u8_and_nat _ _ (by omega) (by omega), nat_mask1]

end Go.Proofs.Ytaadlhcpgjibeaa
