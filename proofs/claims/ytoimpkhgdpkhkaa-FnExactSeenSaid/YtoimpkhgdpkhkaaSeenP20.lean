/-
  Which items are seen, free of the program.
-/
import Derived.Test.YtoimpkhgdpkhkaaItem20
import Derived.Test.YtoimpkhgdpkhkaaMeet20
import Derived.Test.YtoimpkhgdpkhkaaApp20
namespace Go.Proofs.Ytoimpkhgdpkhkaa
open Go.ChangeShapes Go.WideShapes Go.ChangeAt Go.RowKit

set_option maxRecDepth 100000
set_option linter.unusedVariables false
set_option linter.unusedSimpArgs false

/-- Whether an item of a list is seen. -/
def seesP (x y a b : Int) (p : ItemD) : Prop := MeetP p.2.2.2.2.2.1 p.2.2.2.2.2.2.1 p.2.2.2.2.2.2.2.1 p.2.2.2.2.2.2.2.2 x y a b
def sees (x y a b : Int) (p : ItemD) : Bool := decide (MeetP p.2.2.2.2.2.1 p.2.2.2.2.2.2.1 p.2.2.2.2.2.2.2.1 p.2.2.2.2.2.2.2.2 x y a b)
def seenN (l : List ItemD) (x y a b : Int) : Nat → List Int
  | 0 => []
  | k + 1 => match l[k]? with
    | some p => if sees x y a b p = true then seenN l x y a b k ++ [(k : Int)] else seenN l x y a b k
    | none => seenN l x y a b k
theorem seenN_len (l : List ItemD) (x y a b : Int) (k : Nat) : (seenN l x y a b k).length ≤ k := by
  induction k with
  | zero => simp [seenN]
  | succ k ih =>
    unfold seenN
    split
    · split
      · simp; omega
      · omega
    · omega
theorem seenN_yes {l : List ItemD} {x y a b : Int} {k : Nat} {p : ItemD} (hp : l[k]? = some p) (h : sees x y a b p = true) : seenN l x y a b (k + 1) = seenN l x y a b k ++ [(k : Int)] := by
  rw [seenN, hp]
  simp [h]
theorem seenN_no {l : List ItemD} {x y a b : Int} {k : Nat} {p : ItemD} (hp : l[k]? = some p) (h : sees x y a b p = false) : seenN l x y a b (k + 1) = seenN l x y a b k := by
  rw [seenN, hp]
  simp [h]
abbrev SeenP (l : List ItemD) (x y a b : Int) : Prop := l.length ≤ 60 ∧ BoxP x y a b ∧ ∀ p ∈ l, ItemP p
def seenA (l : List ItemD) (x y a b : Int) : List Int × Bool := if SeenP l x y a b then (seenN l x y a b l.length, true) else ([], false)
theorem seenA_len (l : List ItemD) (x y a b : Int) : (seenA l x y a b).1.length ≤ 60 := by
  unfold seenA
  split
  · rename_i h
    have := seenN_len l x y a b l.length
    have := h.1
    show (seenN l x y a b l.length).length ≤ 60
    omega
  · simp

end Go.Proofs.Ytoimpkhgdpkhkaa
