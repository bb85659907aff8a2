/-
  Bits laid behind bits, free of the program.
-/
import Derived.Test.YtaadlhcpgjibeaaTakeP23
import Derived.Test.YtaadlhcpgjibeaaGood23
namespace Go.Proofs.Ytaadlhcpgjibeaa
open Go.ChangeShapes Go.WideShapes Go.ChangeAt Go.RowKit

set_option maxRecDepth 100000
set_option linter.unusedVariables false
set_option linter.unusedSimpArgs false

/-- A byte with a bit laid at a place. -/
def orB (x : UInt8) (b p : Nat) : UInt8 := UInt8.ofNat (x.toNat ||| b * 2 ^ (7 - p))
/-- Bytes with room for one bit more. -/
def roomB (n : Nat) (l : List UInt8) : List UInt8 := if n % 8 = 0 then l ++ [0] else l
def layB (n : Nat) (l : List UInt8) (b : Nat) : List UInt8 := (roomB n l).set (n / 8) (orB ((roomB n l)[n / 8]?.getD 0) b (n % 8))
/-- The first j of m bits of v laid behind n bits. -/
def layM (n : Nat) (l : List UInt8) (v m : Nat) : Nat → List UInt8
  | 0 => l
  | j + 1 => layB (n + j) (layM n l v m j) (v / 2 ^ (m - 1 - j) % 2)
theorem roomB_len {n : Nat} {l : List UInt8} (h : l.length = (n + 7) / 8) : (roomB n l).length = (n + 1 + 7) / 8 := by
  unfold roomB
  split
  · simp; omega
  · omega
theorem layB_len {n : Nat} {l : List UInt8} (b : Nat) (h : l.length = (n + 7) / 8) : (layB n l b).length = (n + 1 + 7) / 8 := by
  rw [layB, List.length_set, roomB_len h]
theorem layM_len {n : Nat} {l : List UInt8} (v m : Nat) (h : l.length = (n + 7) / 8) : ∀ j, (layM n l v m j).length = (n + j + 7) / 8
  | 0 => h
  | j + 1 => by rw [layM, layB_len _ (layM_len v m h j)]; congr 1
theorem room_at {n : Nat} {l : List UInt8} (h : l.length = (n + 7) / 8) : ∃ x, (roomB n l)[n / 8]? = some x := ⟨_, List.getElem?_eq_getElem (by rw [roomB_len h]; omega)⟩
theorem i64_bit (x k : Nat) (hx : x < 4294967296) : bits .and .i64 ((x : Int) / 2 ^ k) 1 = ((x / 2 ^ k % 2 : Nat) : Int) := by
  have e : ((x : Int) / 2 ^ k) = ((x / 2 ^ k : Nat) : Int) := by simp
  have h2 : x / 2 ^ k ≤ x := Nat.div_le_self _ _
  rw [e]
  generalize x / 2 ^ k = q at *
  rw [show (1 : Int) = 2 ^ 1 - 1 from rfl, bits_mask .i64 40 (by decide) (fun n h1 h2 => IntWalk.i64_in _ (by omega)) 1 (by omega) _ (by omega) (by omega)]
  simp
theorem orB_zero (x : UInt8) (p : Nat) : orB x 0 p = x := by simp [orB]
theorem layB_zero {n : Nat} {l : List UInt8} {x : UInt8} (h : (roomB n l)[n / 8]? = some x) : layB n l 0 = roomB n l := by
  rw [layB, orB_zero, h, Option.getD_some]
  obtain ⟨hlt, e⟩ := List.getElem?_eq_some_iff.1 h
  rw [← e]
  exact List.set_getElem_self _
theorem orB_int (x : UInt8) (b p : Nat) (hb : b < 2) : bits .or .u8 (x.toNat : Int) ((b * 2 ^ (7 - p) : Nat) : Int) = ((orB x b p).toNat : Int) := by
  have hx := x.toNat_lt
  have hp : 2 ^ (7 - p) ≤ 2 ^ 7 := Nat.pow_le_pow_right (by omega) (by omega)
  have h2 : b * 2 ^ (7 - p) < 256 := by
    have : b * 2 ^ (7 - p) ≤ 1 * 2 ^ 7 := Nat.mul_le_mul (by omega) hp
    omega
  rw [u8_or_nat _ _ (by omega) h2, orB, UInt8.toNat_ofNat']
  have h3 : (x.toNat ||| b * 2 ^ (7 - p)) < 2 ^ 8 := Nat.or_lt_two_pow (by omega) (by omega)
  rw [Nat.mod_eq_of_lt h3]
theorem orB_lay (x : UInt8) (B p : Nat) (hB : B < 2) : bits .or .u8 (x.toNat : Int) (wrap64 ((B : Int) * 2 ^ (7 - p)) % 256) = ((orB x B p).toNat : Int) := by
  have e : ((B : Int) * 2 ^ (7 - p)) = ((B * 2 ^ (7 - p) : Nat) : Int) := by simp
  have hp : 2 ^ (7 - p) ≤ 2 ^ 7 := Nat.pow_le_pow_right (by omega) (by omega)
  have h2 : B * 2 ^ (7 - p) < 256 := by
    have : B * 2 ^ (7 - p) ≤ 1 * 2 ^ 7 := Nat.mul_le_mul (by omega) hp
    omega
  have h3 := orB_int x B p hB
  rw [e]
  generalize B * 2 ^ (7 - p) = q at *
  rw [IntWalk.wrap64_in _ (by omega), Int.emod_eq_of_lt (by omega) (by omega), h3]
theorem shl_128 (p : Nat) (hp : p < 8) : (128 : Int) / 2 ^ p = ((1 * 2 ^ (7 - p) : Nat) : Int) := by
  have : ∀ q : Fin 8, (128 : Int) / 2 ^ q.1 = ((1 * 2 ^ (7 - q.1) : Nat) : Int) := by decide
  exact this ⟨p, hp⟩

end Go.Proofs.Ytaadlhcpgjibeaa
