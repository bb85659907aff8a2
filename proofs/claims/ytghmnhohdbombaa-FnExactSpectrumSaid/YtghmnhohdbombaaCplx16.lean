/-
  Complex numbers added, and the spectrum's sums, free of the program.
-/
import Derived.Test.YtghmnhohdbombaaFil16
import Derived.Test.YtghmnhohdbombaaTn16
import Derived.Test.YtghmnhohdbombaaTurn
namespace Go.Proofs.Ytghmnhohdbombaa
open Go.ChangeShapes Go.WideShapes Go.ChangeAt Go.RowKit Ieee

section
variable {P : Program} (w : World)
theorem run_arith (x y : Nat) : (Op.Complex.arith .add .f64 x y).run P w = .ok (fop .add (tok w) x y) (w.drewN (nd .add x y)) := by
  have h : (Op.floatArith .add .f64 x y).run P w = .ok (.float .f64 (fop .add (tok w) x y)) (w.drewN (nd .add x y)) := by
    have h1 := run_fop (P := P) w .add (.inl rfl) 0 x y
    simpa [binOp] using h1
  simp [Op.Complex.arith, h]
@[go_sem] theorem run_cadd (t : TypeId) (a b c d : Nat) : (binOp .add t (.complex .f64 a b) (.complex .f64 c d)).run P w = .ok (.complex .f64 (fop .add (tok w) a c) (fop .add ((tok w).adv (nd .add a c)) b d)) (w.drewN (nd .add a c + nd .add b d)) := by
  have h1 := run_arith (P := P) w a c
  have h2 := run_arith (P := P) (w.drewN (nd .add a c)) b d
  simp [binOp, Op.complexOp, h1, h2]
  rfl
end
def wL : List (Nat × Nat) := [(4607182418800017408, 0), (4604544271217802189, 13827916308072577997), (0, 13830554455654793216), (13827916308072577997, 13827916308072577997), (13830554455654793216, 0), (13827916308072577997, 4604544271217802189), (0, 4607182418800017408), (4604544271217802189, 4604544271217802189)]
def wT (j : Nat) : Nat × Nat := wL.getD (j % 8) (0, 0)
def stepT (v : Nat) (p : Nat × Nat) (a : Option Nat × Option Nat) : Option Nat × Option Nat := (opN .add a.1 (opN .mul (nrm v) (nrm p.1)), opN .add a.2 (opN .mul (nrm v) (nrm p.2)))
def accT (xs : List Nat) (k : Nat) : Nat → Option Nat × Option Nat
  | 0 => (some 0, some 0)
  | n + 1 => stepT (xs.getD n 0) (wT (k * n)) (accT xs k n)
def turnO (a b : Option Nat) : Nat × Nat × Bool := if finO a && finO b then (plainO a, plainO b, true) else (0, 0, false)
theorem turnM_of {re im : Nat} {a b : Option Nat} (h1 : nrm re = a) (h2 : nrm im = b) : turnM re im = turnO a b := by
  unfold turnM turnO
  rw [← h1, ← h2, finO_nrm, finO_nrm]
  cases f1 : fin re with
  | false => rfl
  | true =>
    cases f2 : fin im with
    | false => rfl
    | true => rw [nrm_fin f1, nrm_fin f2]; rfl
def specK (xs : List Nat) (k : Nat) : Nat × Nat × Bool := turnO (accT xs k xs.length).1 (accT xs k xs.length).2
def specL (xs : List Nat) (n : Nat) : List TnD := (List.range n).map fun k => ((specK xs k).1, (specK xs k).2.1)
theorem specL_len (xs : List Nat) (n : Nat) : (specL xs n).length = n := by simp [specL]
theorem specL_succ (xs : List Nat) (n : Nat) : specL xs (n + 1) = specL xs n ++ [((specK xs n).1, (specK xs n).2.1)] := by simp [specL, List.range_succ]
def SpecP (xs : List Nat) : Prop := xs.length = 8 ∧ goodR xs = true ∧ ∀ k, k < 8 → (specK xs k).2.2 = true
def SpecRes (xs : List Nat) (R : List TnD × Bool) : Prop := (SpecP xs → R = (specL xs 8, true)) ∧ (¬SpecP xs → R = ([], false))

end Go.Proofs.Ytghmnhohdbombaa
