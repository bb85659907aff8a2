/-
  What DrawMeantBy draws.
-/
import Derived.Test.YthkfpbknfjapaaaDrawD17
namespace Go.Proofs.Ythkfpbknfjapaaa
open Go.ChangeShapes Go.WideShapes Go.ChangeAt Go.RowKit

set_option maxRecDepth 100000
set_option linter.unusedVariables false

theorem Code.keep {W W' : World} {ao : Option Addr} {len : Nat} (h : Code W ao len) (k : Kept W W') : Code W' ao len := fun i hi => by
  obtain ⟨ab, off, c, e, hc, hb⟩ := h i hi
  exact ⟨ab, off, c, e, Kept.cell k hc, hb⟩
set_option maxHeartbeats 8000000 in
theorem drawM (ao : Option Addr) (len cap : Nat) (w : World) (h : Code w ao len) (hl : len ≤ 9223372036854775807) :
    Calls Try.prog 10 #[.slice ao len cap] w fun e w' => ∃ (l : List BindD) (es : List PressD) (v v2 : Value), e = .returned (.tuple #[v, v2]) ∧ l.length ≤ 20 ∧ SmallB l ∧ es.length ≤ 300 ∧ BindsO w' w.heap.size w'.heap.size v l ∧ PressAt w' v2 es ∧ Kept w w' := by
  have hC0 := Code.cur (cap := cap) (t := 73) h (by omega)
  have K0 : Kept w (w.alloc (.cells #[.slice ao len cap, .int .i64 0, .int .u64 0] 73)) := (But.refl _ _ w).alloc _
  go_enter Try.func10, Try.ntmps10
  repeat (first | go_values | go_skip | go_guarded | go_step | go_upon)
  go_at_call 45
  refine (binds_ok _ _ 0 (by simpa using hC0) (by omega)).mono ?_
  rintro e w1 ⟨l, v, rfl, hll, hsm, ob, hC, hg⟩
  dsimp only
  have K1 : Kept w w1 := But.onto K0 hg (by omega)
  have ob1 : BindsO w1 (w.heap.size + 1) w1.heap.size v l := by simpa using ob
  have zs : w.heap.size + 1 ≤ w1.heap.size := by have := hg.size; simpa using this
  obtain ⟨a1, c1, hf1⟩ := ob.form
  subst hf1
  have HOB := hide ob1
  clear hg hC0 K0 h ob ob1
  repeat (first | go_values | go_skip | go_guarded | go_step | go_upon)
  go_at_call 46
  refine (presses_ok _ _ _ hC (by omega)).mono ?_
  rintro e w2 ⟨es, v2, rfl, hel, op, hC2, hg2⟩
  dsimp only
  have K2 : Kept w w2 := But.onto K1 hg2 (by omega)
  obtain ⟨a2, c2, hf2⟩ := op.form
  subst hf2
  have HP := hide op.at
  have HB := hide (((HOB.out.but hg2 (.inr (by omega))).low).mono (lo' := w.heap.size) (hi' := w2.heap.size) (by omega) (Nat.le_refl _))
  have HK := hide K2
  clear hC hC2 hg2 op HOB K1 K2
  repeat (first | go_values | go_skip | go_guarded | go_step | go_upon)
  go_ret2
  exact ⟨l, es, _, _, rfl, hll, hsm, hel, HB.out, HP.out, HK.out⟩

end Go.Proofs.Ythkfpbknfjapaaa
