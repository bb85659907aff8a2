/-
  A drawn filter.
-/
import Derived.Test.YtghmnhohdbombaaReal
import Derived.Test.YtghmnhohdbombaaClone16
namespace Go.Proofs.Ytghmnhohdbombaa
open Go.ChangeShapes Go.WideShapes Go.ChangeAt Go.RowKit Ieee

set_option maxRecDepth 100000
set_option linter.unusedVariables false
set_option maxHeartbeats 4000000 in
theorem filter_ok (w : World) (b : Nat) (K : Int) (h : CurOk w b K) (hK : K ≤ 1152921504606820000) :
    Calls Try.prog 42 #[.pointer (some ⟨b, 0, none⟩)] w fun e w' => ∃ r0 r1 r2 r3 r4, e = .returned (.agg #[.float .f64 r0, .float .f64 r1, .float .f64 r2, .float .f64 r3, .float .f64 r4]) ∧ (r0 < 18446744073709551616 ∧ r1 < 18446744073709551616 ∧ r2 < 18446744073709551616 ∧ r3 < 18446744073709551616 ∧ r4 < 18446744073709551616) ∧ CurOk w' b (K + 150) ∧ But b (b + 1) w w' := by
  have hb := h.lt
  go_enter Try.func42, Try.ntmps42
  repeat (first | go_values | go_skip | go_guarded | go_step | go_upon)
  go_at_call 43
  refine (tame_ok _ b (K) (h.alloc _) (by omega)).mono ?_
  rintro e w0 ⟨r0, rfl, l0, hC0, hg0⟩
  dsimp only
  repeat (first | go_values | go_skip | go_guarded | go_step | go_upon)
  go_at_call 43
  refine (tame_ok _ b (K + 30) hC0 (by omega)).mono ?_
  rintro e w1 ⟨r1, rfl, l1, hC1, hg1⟩
  dsimp only
  repeat (first | go_values | go_skip | go_guarded | go_step | go_upon)
  go_at_call 43
  refine (tame_ok _ b (K + 30 + 30) hC1 (by omega)).mono ?_
  rintro e w2 ⟨r2, rfl, l2, hC2, hg2⟩
  dsimp only
  repeat (first | go_values | go_skip | go_guarded | go_step | go_upon)
  go_at_call 43
  refine (tame_ok _ b (K + 30 + 30 + 30) hC2 (by omega)).mono ?_
  rintro e w3 ⟨r3, rfl, l3, hC3, hg3⟩
  dsimp only
  repeat (first | go_values | go_skip | go_guarded | go_step | go_upon)
  go_at_call 43
  refine (tame_ok _ b (K + 30 + 30 + 30 + 30) hC3 (by omega)).mono ?_
  rintro e w4 ⟨r4, rfl, l4, hC4, hg4⟩
  dsimp only
  have G : But b (b + 1) (w.alloc (.cells #[.float .f64 0, .float .f64 0, .float .f64 0, .float .f64 0, .float .f64 0] 25)) w4 := (((hg0.trans hg1).trans hg2).trans hg3).trans hg4
  have L := (Loc.new w [.float .f64 0, .float .f64 0, .float .f64 0, .float .f64 0, .float .f64 0] 25).but G (.inr (by omega))
  have GW : But b (b + 1) w w4 := ((But.refl _ _ w).alloc _).trans G
  have z0 := L.cell 0 rfl; have zf0 := L.frozen 0; have z1 := L.cell 1 rfl; have zf1 := L.frozen 1; have z2 := L.cell 2 rfl; have zf2 := L.frozen 2; have z3 := L.cell 3 rfl; have zf3 := L.frozen 3; have z4 := L.cell 4 rfl; have zf4 := L.frozen 4; clear L G hg0 hg1 hg2 hg3 hg4 hC0 hC1 hC2 hC3
  repeat (first | go_values | go_skip | go_guarded | go_step | go_upon)
  refine bodyPost_ret (v := .agg #[.float .f64 r0, .float .f64 r1, .float .f64 r2, .float .f64 r3, .float .f64 r4]) (by simp [results, Try.results42, go_sem, z0, z1, z2, z3, z4]) rfl ?_
  exact ⟨r0, r1, r2, r3, r4, rfl, ⟨l0, l1, l2, l3, l4⟩, ((((((hC4.le (by omega)).set hb 0 _).set hb 1 _).set hb 2 _).set hb 3 _).set hb 4 _), (((((GW.setNew (by simp) _).setNew (by simp) _).setNew (by simp) _).setNew (by simp) _).setNew (by simp) _)⟩

end Go.Proofs.Ytghmnhohdbombaa
