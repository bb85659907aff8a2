/-
  The nearest one further along a way; free of the program.
-/
import Derived.Test.YtaofilinejanjaaPure18
namespace Go.Proofs.Ytaofilinejanjaa
open Go.ChangeShapes Go.WideShapes Go.ChangeAt Go.RowKit

set_option maxRecDepth 100000
set_option linter.unusedVariables false

def PlsP (l : List PlacedD) : Prop := l.length ≤ 40 ∧ ∀ j, j < l.length → ∀ d, l[j]? = some d → PlOk d
/-- How far it is from one's middle to another's, in halves. -/
def dxM (a p : PlacedD) : Int := 2 * p.1 + p.2.2.1 - 2 * a.1 - a.2.2.1
def dyM (a p : PlacedD) : Int := 2 * p.2.1 + p.2.2.2 - 2 * a.2.1 - a.2.2.2
def alM (way : Int) (a p : PlacedD) : Int := if way = 0 then -(dxM a p) else if way = 1 then dxM a p else if way = 2 then -(dyM a p) else dyM a p
def acM (way : Int) (a p : PlacedD) : Int := if way = 0 then dyM a p else if way = 1 then dyM a p else dxM a p
def faM (way : Int) (a p : PlacedD) : Int := alM way a p + 2 * absM (acM way a p)
/-- The nearest one ahead of place k, and how far it is. -/
def focK (l : List PlacedD) (a : PlacedD) (way : Int) : Nat → Int × Int
  | 0 => (-1, 0)
  | k + 1 => match l[k]? with
    | some p => if 0 < alM way a p ∧ ((focK l a way k).1 = -1 ∨ faM way a p < (focK l a way k).2) then ((k : Int), faM way a p) else focK l a way k
    | none => focK l a way k
theorem foc_yes {l : List PlacedD} {a p : PlacedD} {way : Int} {k : Nat} (h : l[k]? = some p) (h1 : 0 < alM way a p) (h2 : (focK l a way k).1 = -1 ∨ faM way a p < (focK l a way k).2) : focK l a way (k + 1) = ((k : Int), faM way a p) := by simp only [focK, h]; rw [if_pos ⟨h1, h2⟩]
theorem foc_no {l : List PlacedD} {a p : PlacedD} {way : Int} {k : Nat} (h : l[k]? = some p) (h1 : ¬ (0 < alM way a p ∧ ((focK l a way k).1 = -1 ∨ faM way a p < (focK l a way k).2))) : focK l a way (k + 1) = focK l a way k := by simp only [focK, h]; rw [if_neg h1]
def FocOk (l : List PlacedD) (at' way : Int) : Prop := PlsP l ∧ (0 ≤ at' ∧ at' ≤ (l.length : Int) - 1) ∧ (0 ≤ way ∧ way ≤ 3)
noncomputable def focA (l : List PlacedD) (at' way : Int) : Int × Bool := if dec (FocOk l at' way) then ((focK l ((l[at'.toNat]?).getD (0, 0, 0, 0)) way l.length).1, true) else (0, false)
theorem focA_no {l : List PlacedD} {at' way : Int} (h : ¬ FocOk l at' way) : focA l at' way = (0, false) := by unfold focA; rw [dec_no h]; rfl
theorem focA_yes {l : List PlacedD} {t : Nat} {way : Int} {a : PlacedD} (h : FocOk l (t : Int) way) (ha : l[t]? = some a) : focA l (t : Int) way = ((focK l a way l.length).1, true) := by unfold focA; rw [dec_yes h]; simp [ha]
theorem al_self (way : Int) (a : PlacedD) : alM way a a = 0 := by
  unfold alM dxM dyM
  repeat' split
  all_goals omega
theorem abs_bd {x B : Int} (h : -B ≤ x ∧ x ≤ B) : 0 ≤ absM x ∧ absM x ≤ B := by unfold absM; split <;> omega
theorem dx_bd {a p : PlacedD} (ha : PlOk a) (hp : PlOk p) : (-200000 ≤ dxM a p ∧ dxM a p ≤ 200000) ∧ (-200000 ≤ dyM a p ∧ dyM a p ≤ 200000) := by
  obtain ⟨⟨a1, a2⟩, ⟨a3, a4⟩, ⟨a5, a6⟩, a7, a8⟩ := ha
  obtain ⟨⟨p1, p2⟩, ⟨p3, p4⟩, ⟨p5, p6⟩, p7, p8⟩ := hp
  unfold dxM dyM
  omega

end Go.Proofs.Ytaofilinejanjaa
