/-
  A turn of floats that are no NaN is the same as itself; what the sums and products answer is no NaN.
-/
import Derived.Test.YthbhoppmdcfgeaaTwo
namespace Go.Proofs.Ythbhoppmdcfgeaa
open Go.ChangeShapes Go.WideShapes Go.ChangeAt Go.RowKit Ieee

theorem stood29 : Try.prog.stoodInHeld 29 = false := by kernel_rfl
theorem guard29 : Try.prog.eqGuardType Try.prog.depth 29 = false := by kernel_rfl
theorem floatEq_self (x : Nat) (h : nanB x = false) (w : World) (d : Nat) : (Op.equalIn (d + 1) 25 (.float .f64 x) (.float .f64 x)).run Try.prog w = .ok true w := by
  have e := order_ne x
  rw [h] at e
  have e2 : (FloatKind.f64.format.order x x == some Ordering.eq) = true := by simpa using e
  simp [Op.equalIn, run_underlying Try.underlying25, Op.floatEq]
  simpa using e2
theorem turn_neq (x y : Nat) (hx : nanB x = false) (hy : nanB y = false) (w : World) : (binOp .neq 29 (.agg #[.float .f64 x, .float .f64 y]) (.agg #[.float .f64 x, .float .f64 y])).run Try.prog w = .ok (.bool false) w := by
  have hf : Try.prog.underlying 29 = some (.struct (Try.prog.fieldsOf 29)) := by unfold Program.fieldsOf; rw [Try.underlying29]
  rw [run_neq_struct, run_equalIn_struct w 9999 29 _ _ hf stood29]
  have e : (Op.eqFields 9999 #[.float .f64 x, .float .f64 y] #[.float .f64 x, .float .f64 y] (Try.prog.fieldsOf 29).toList).run Try.prog w = .ok true w := by
    unfold Program.fieldsOf
    rw [Try.underlying29]
    have h1 := floatEq_self x hx
    have h2 := floatEq_self y hy
    simp [Op.eqFields, go_sem, floatEq_self x hx, floatEq_self y hy]
  rw [e]
  rfl
theorem nan_of_nrm {x y : Nat} (h : nrm x = some y) : nanB x = false := by
  cases hn : nanB x
  · rfl
  · simp [nrm, hn] at h
theorem sum_nan0 (xs : List Nat) : nanB (sumM xs).1 = false := nan_of_nrm (sum_nrm xs)
theorem plain_nan (x : Nat) (h : fin x = true) : nanB (plain x) = false := by
  unfold plain
  cases zeroB x
  · exact fin_nan h
  · rfl
theorem turnO_nan (a b : Option Nat) : nanB (turnO a b).1 = false ∧ nanB (turnO a b).2.1 = false := by
  unfold turnO
  split
  · unfold turnM
    split
    · rename_i h
      simp only [Bool.and_eq_true] at h
      exact ⟨plain_nan _ h.1, plain_nan _ h.2⟩
    · exact ⟨rfl, rfl⟩
  · exact ⟨rfl, rfl⟩
theorem mul_nan0 (a b c d : Nat) : nanB (mulM a b c d).1 = false ∧ nanB (mulM a b c d).2.1 = false := by
  unfold mulM
  split
  · exact turnO_nan _ _
  · exact ⟨rfl, rfl⟩
end Go.Proofs.Ythbhoppmdcfgeaa
