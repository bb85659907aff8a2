/-
  Keys of items, in the program, at every item.
-/
import Derived.Test.YtoimpkhgdpkhkaaDoorISort20
namespace Go.Proofs.YtoimpkhgdpkhkaaDoor
open Go.ChangeShapes Go.WideShapes Go.ChangeAt Go.RowKit

set_option maxRecDepth 100000
set_option linter.unusedVariables false
set_option linter.unusedSimpArgs false

set_option maxHeartbeats 4000000 in
theorem isort (f0 f1 f2 f3 : Int) (f4 : Bool) (f5 f6 f7 f8 : Int) (w : World) (hT : Tab w) : Calls Tryd.prog 8 #[.agg #[.int .i64 f0, .int .i64 f1, .int .i64 f2, .int .i64 f3, .bool f4, .int .i64 f5, .int .i64 f6, .int .i64 f7, .int .i64 f8]] w fun e w' => e = .returned (.tuple #[.int .i64 (keyA (f0, f1, f2, f3, f4, f5, f6, f7, f8)), .bool (decide (ItemP (f0, f1, f2, f3, f4, f5, f6, f7, f8)))]) ∧ Kept w w' := by
  rcases (Decidable.em (ItemP (f0, f1, f2, f3, f4, f5, f6, f7, f8))).symm with h | h
  · have d : decide (ItemP (f0, f1, f2, f3, f4, f5, f6, f7, f8)) = false := decide_eq_false h
    rw [show keyA (f0, f1, f2, f3, f4, f5, f6, f7, f8) = 0 from if_neg h, d]
    clear h
    go_enter Tryd.func8, Tryd.ntmps8
    repeat (first | (go_at_call 28; refine (iitem _ _ _ _ _ _ _ _ _ _).mono ?_; rintro e u1 ⟨rfl, k1⟩; rw [d]; dsimp only) | go_values | go_skip | go_guarded | go_step | go_upon)
    go_ret2
    exact ⟨rfl, ((But.refl _ _ _).alloc _).trans k1⟩
  · have d : decide (ItemP (f0, f1, f2, f3, f4, f5, f6, f7, f8)) = true := decide_eq_true h
    rw [show keyA (f0, f1, f2, f3, f4, f5, f6, f7, f8) = keyM f0 f1 f2 f3 f4 from if_pos h, d]
    obtain ⟨⟨⟨a1, a2⟩, ⟨b1, b2⟩, ⟨c1, c2⟩, d1, d2⟩, _⟩ := id h
    dsimp only at a1 a2 b1 b2 c1 c2 d1 d2
    cases f4 with
    | true =>
      rw [show keyM f0 f1 f2 f3 true = ((((f0 * 2 + 1) * 4096 + (4095 - f3)) * 256 + f1) * 256 + f2) by simp only [keyM, reduceIte]; omega]
      exact isort_true f0 f1 f2 f3 f5 f6 f7 f8 w hT h
    | false =>
      rw [show keyM f0 f1 f2 f3 false = (((f0 * 2 * 256 + f1) * 256 + f2) * 4096 + f3) by simp only [keyM, Bool.false_eq_true, if_false]; omega]
      exact isort_false f0 f1 f2 f3 f5 f6 f7 f8 w hT h

end Go.Proofs.YtoimpkhgdpkhkaaDoor
