/-
  How many sparks there are, on both sides.
-/
import Derived.Test.YtpeiblodefaajaaDoorRunS12
namespace Go.Proofs.YtpeiblodefaajaaDoor
open Go.ChangeShapes Go.WideShapes Go.ChangeAt Go.RowKit

set_option maxRecDepth 100000
set_option linter.unusedVariables false

set_option maxHeartbeats 4000000 in
theorem iat (x y ev bu li sv fa sd kk : Int) (w : World) (hT : Tab w) : Calls Tryd.prog 23 #[.agg #[.int .i64 x, .int .i64 y, .int .i64 ev, .int .i64 bu, .int .i64 li, .int .i64 sv, .int .i64 fa], .int .i64 sd, .int .i64 kk] w fun r w' => r = .returned (.tuple #[.int .i64 ((runA (x, y, ev, bu, li, sv, fa) (sd, 0, []) kk).1.2.2.length : Nat), .bool (runA (x, y, ev, bu, li, sv, fa) (sd, 0, []) kk).2]) ∧ Kept w w' := by
  obtain ⟨W0, hW0⟩ : ∃ W, W = w.alloc (.cells #[.int .i64 x, .int .i64 y, .int .i64 ev, .int .i64 bu, .int .i64 li, .int .i64 sv, .int .i64 fa] 24) := ⟨_, rfl⟩
  have K0 : Kept w W0 := by rw [hW0]; exact (But.refl _ _ _).alloc _
  have Le : Loc W0 w.heap.size [.int .i64 x, .int .i64 y, .int .i64 ev, .int .i64 bu, .int .i64 li, .int .i64 sv, .int .i64 fa] := by rw [hW0]; exact Loc.new w _ 24
  have HW0 : Hid (W0 = _) := hW0
  clear hW0
  have hvn : ∀ W : World, SparkAt W (.slice none ([] : List SparkD).length 0) [] := fun W => (spark_nil W 0 0).at
  have hlen := runA_len (x, y, ev, bu, li, sv, fa) (sd, 0, []) kk
  have HRN : Hid (∀ W, Tab W → Calls Tryd.prog 8 #[.agg #[.int .i64 x, .int .i64 y, .int .i64 ev, .int .i64 bu, .int .i64 li, .int .i64 sv, .int .i64 fa], .agg #[.int .i64 sd, .int .i64 0, .slice none 0 0], .int .i64 kk] W fun r w' => ∃ v', r = .returned (.tuple #[v', .bool (runA (x, y, ev, bu, li, sv, fa) (sd, 0, []) kk).2]) ∧ CloudO w' W.heap.size w'.heap.size v' (runA (x, y, ev, bu, li, sv, fa) (sd, 0, []) kk).1 ∧ Kept W w') := fun W h => irun x y ev bu li sv fa sd 0 kk [] none 0 W h (hvn W) (by simp)
  clear hvn
  generalize runA (x, y, ev, bu, li, sv, fa) (sd, 0, []) kk = R at HRN hlen ⊢
  obtain ⟨c9, b9⟩ := R
  have e0 := Le.cell 0 rfl
  have e1 := Le.cell 1 rfl
  have e2 := Le.cell 2 rfl
  have e3 := Le.cell 3 rfl
  have e4 := Le.cell 4 rfl
  have e5 := Le.cell 5 rfl
  have e6 := Le.cell 6 rfl
  go_enter Tryd.func23, Tryd.ntmps23
  repeat (first | rw [← HW0.out] | go_values | go_skip | go_guarded | go_step | go_upon)
  go_at_call 8
  refine (HRN.out _ (hT.kept K0)).mono ?_
  rintro e w9 ⟨v9, rfl, o9, k9⟩
  obtain ⟨a9, p9, hf9⟩ := o9.form
  subst hf9
  have HK9 : Hid (Kept w w9) := K0.trans k9
  clear o9 k9 e0 e1 e2 e3 e4 e5 e6 HRN
  dsimp only at hlen ⊢
  repeat (first | go_values | go_skip | go_guarded | go_step | go_upon)
  go_returns
  exact ⟨rfl, HK9.out.alloc _⟩

set_option maxHeartbeats 4000000 in
theorem sat (x y ev bu li sv fa sd kk : Int) (w : World) (hT : Tab w) : Calls Tryd.prog 22 #[.agg #[.int .i64 x, .int .i64 y, .int .i64 ev, .int .i64 bu, .int .i64 li, .int .i64 sv, .int .i64 fa], .int .i64 sd, .int .i64 kk] w fun r w' => r = .returned (.tuple #[.int .i64 ((runA (x, y, ev, bu, li, sv, fa) (sd, 0, []) kk).1.2.2.length : Nat), .bool (runA (x, y, ev, bu, li, sv, fa) (sd, 0, []) kk).2]) ∧ Kept w w' := by
  obtain ⟨W0, hW0⟩ : ∃ W, W = w.alloc (.cells #[.int .i64 x, .int .i64 y, .int .i64 ev, .int .i64 bu, .int .i64 li, .int .i64 sv, .int .i64 fa] 24) := ⟨_, rfl⟩
  have K0 : Kept w W0 := by rw [hW0]; exact (But.refl _ _ _).alloc _
  have Le : Loc W0 w.heap.size [.int .i64 x, .int .i64 y, .int .i64 ev, .int .i64 bu, .int .i64 li, .int .i64 sv, .int .i64 fa] := by rw [hW0]; exact Loc.new w _ 24
  have HW0 : Hid (W0 = _) := hW0
  clear hW0
  have hvn : ∀ W : World, SparkAt W (.slice none ([] : List SparkD).length 0) [] := fun W => (spark_nil W 0 0).at
  have hlen := runA_len (x, y, ev, bu, li, sv, fa) (sd, 0, []) kk
  have HRN : Hid (∀ W, Tab W → Calls Tryd.prog 9 #[.agg #[.int .i64 x, .int .i64 y, .int .i64 ev, .int .i64 bu, .int .i64 li, .int .i64 sv, .int .i64 fa], .agg #[.int .i64 sd, .int .i64 0, .slice none 0 0], .int .i64 kk] W fun r w' => ∃ v', r = .returned (.tuple #[v', .bool (runA (x, y, ev, bu, li, sv, fa) (sd, 0, []) kk).2]) ∧ CloudO w' W.heap.size w'.heap.size v' (runA (x, y, ev, bu, li, sv, fa) (sd, 0, []) kk).1 ∧ Kept W w') := fun W h => srun x y ev bu li sv fa sd 0 kk [] none 0 W h (hvn W) (by simp)
  clear hvn
  generalize runA (x, y, ev, bu, li, sv, fa) (sd, 0, []) kk = R at HRN hlen ⊢
  obtain ⟨c9, b9⟩ := R
  have e0 := Le.cell 0 rfl
  have e1 := Le.cell 1 rfl
  have e2 := Le.cell 2 rfl
  have e3 := Le.cell 3 rfl
  have e4 := Le.cell 4 rfl
  have e5 := Le.cell 5 rfl
  have e6 := Le.cell 6 rfl
  go_enter Tryd.func22, Tryd.ntmps22
  repeat (first | rw [← HW0.out] | go_values | go_skip | go_guarded | go_step | go_upon)
  go_at_call 9
  refine (HRN.out _ (hT.kept K0)).mono ?_
  rintro e w9 ⟨v9, rfl, o9, k9⟩
  obtain ⟨a9, p9, hf9⟩ := o9.form
  subst hf9
  have HK9 : Hid (Kept w w9) := K0.trans k9
  clear o9 k9 e0 e1 e2 e3 e4 e5 e6 HRN
  dsimp only at hlen ⊢
  repeat (first | go_values | go_skip | go_guarded | go_step | go_upon)
  go_returns
  exact ⟨rfl, HK9.out.alloc _⟩

end Go.Proofs.YtpeiblodefaajaaDoor
