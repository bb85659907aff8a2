/-
  The least box round a shape, as the specification says it.
-/
import Derived.Test.YtfibikkbhbmfkaaSpec9
import Derived.Test.YtfibikkbhbmfkaaQuiet
import Derived.Deep.RegionHeld3
import Derived.Deep.QuietTactic
namespace Go.Proofs.Ytfibikkbhbmfkaa
open Go.ChangeShapes Go.WideShapes Go.ChangeAt Go.RowKit

/-- Least x, least y, greatest x, greatest y. -/
def bnd (p : ShapeD) : Int × Int × Int × Int := if p.1 = 1 then (p.2.1, p.2.2.1, p.2.1 + p.2.2.2.1, p.2.2.1 + p.2.2.2.2) else (p.2.1 - p.2.2.2.1, p.2.2.1 - p.2.2.2.1, p.2.1 + p.2.2.2.1, p.2.2.1 + p.2.2.2.1)
def Ret4 (q : Int × Int × Int × Int) : Ending := .returned (.tuple #[.int .i64 q.1, .int .i64 q.2.1, .int .i64 q.2.2.1, .int .i64 q.2.2.2])
theorem sbnd (k x y a b : Int) (w : World) (h : ShapeP (k, x, y, a, b)) : Calls Try.prog 37 #[.agg #[.int .i64 k, .int .i64 x, .int .i64 y, .int .i64 a, .int .i64 b]] w fun e w' => e = Ret4 (bnd (k, x, y, a, b)) ∧ Kept w w' := by
  obtain ⟨⟨x1, x2⟩, ⟨y1, y2⟩, ⟨a1, a2⟩, hh⟩ := h
  dsimp only at x1 x2 y1 y2 a1 a2 hh
  by_cases hk : k = 1
  · have b1 : 1 ≤ b ∧ b ≤ 1000 := by rcases hh with ⟨_, h⟩ | ⟨h, _⟩ <;> omega
    obtain ⟨b1, b2⟩ := b1
    subst hk
    clear hh
    have e1 := IntWalk.i64_in (n := x + a) (by omega)
    have e2 := IntWalk.i64_in (n := y + b) (by omega)
    go_enter Try.func37, Try.ntmps37
    repeat (first | go_values | go_skip | go_guarded | go_step | go_upon)
    try go_quiet (fail)
    repeat (first | go_values | go_skip | go_guarded | go_step | go_upon)
    refine bodyPost_ret (v := .tuple #[.int .i64 (x), .int .i64 (y), .int .i64 (x + a), .int .i64 (y + b)]) (by simp [results, Try.results37, go_sem]) rfl ?_
    exact ⟨by simp [Ret4, bnd], by (repeat (first | with_reducible exact But.refl _ _ _ | with_reducible apply But.drewN | with_reducible apply But.drew | with_reducible apply But.alloc))⟩
  · have e0 : (k == 1) = false := by simpa using hk
    clear hh
    have e1 := IntWalk.i64_in (n := x + a) (by omega)
    have e2 := IntWalk.i64_in (n := y + a) (by omega)
    have e3 := IntWalk.i64_in (n := x - a) (by omega)
    have e4 := IntWalk.i64_in (n := y - a) (by omega)
    go_enter Try.func37, Try.ntmps37
    repeat (first | go_values | go_skip | go_guarded | go_step | go_upon)
    try go_quiet (fail)
    repeat (first | go_values | go_skip | go_guarded | go_step | go_upon)
    refine bodyPost_ret (v := .tuple #[.int .i64 (x - a), .int .i64 (y - a), .int .i64 (x + a), .int .i64 (y + a)]) (by simp [results, Try.results37, go_sem]) rfl ?_
    exact ⟨by simp [Ret4, bnd, hk], by (repeat (first | with_reducible exact But.refl _ _ _ | with_reducible apply But.drewN | with_reducible apply But.drew | with_reducible apply But.alloc))⟩

def bndA (p : ShapeD) : Int × Int × Int × Int := if ShapeP p then bnd p else (0, 0, 0, 0)
theorem sbounds (k x y a b : Int) (w : World) : Calls Try.prog 13 #[.agg #[.int .i64 k, .int .i64 x, .int .i64 y, .int .i64 a, .int .i64 b]] w fun e w' => e = Ret4 (bndA (k, x, y, a, b)) ∧ Kept w w' := by
  by_cases h : ShapeP (k, x, y, a, b)
  · have d : decide (ShapeP (k, x, y, a, b)) = true := decide_eq_true h
    have HP : Hid (ShapeP (k, x, y, a, b)) := h
    clear h
    go_enter Try.func13, Try.ntmps13
    repeat (first | (go_at_call 10; refine (sgood _ _ _ _ _ _).mono ?_; rw [d]; rintro e w1 ⟨rfl, k1⟩; have hck1 := Kept.cell_eq k1; have hfk1 := Kept.frozen_eq k1; have hzk1 := k1.size; (try simp at hzk1); have nk1 : w.heap.size < w1.heap.size := (by omega); have Kk1 : Kept w w1 := (But.trans (by (repeat (first | with_reducible exact But.refl _ _ _ | with_reducible apply But.drewN | with_reducible apply But.drew | with_reducible apply But.alloc))) k1); clear k1; dsimp only) | (go_at_call 37; refine (sbnd _ _ _ _ _ _ HP.out).mono ?_; unfold Ret4; rintro e w2 ⟨rfl, k2⟩; have hck2 := Kept.cell_eq k2; have hfk2 := Kept.frozen_eq k2; have hzk2 := k2.size; (try simp at hzk2); have nk2 : w.heap.size < w2.heap.size := (by omega); have Kk2 : Kept w w2 := (But.trans (by (repeat (first | with_reducible exact Kk1 | with_reducible apply But.drewN | with_reducible apply But.drew | with_reducible apply But.alloc))) k2); clear k2; dsimp only) | go_values | go_skip | go_guarded | go_step | go_upon)

    refine bodyPost_ret (v := .tuple #[.int .i64 ((bnd (k, x, y, a, b)).1), .int .i64 ((bnd (k, x, y, a, b)).2.1), .int .i64 ((bnd (k, x, y, a, b)).2.2.1), .int .i64 ((bnd (k, x, y, a, b)).2.2.2)]) (by simp [results, Try.results13, go_sem]) rfl ?_
    exact ⟨by rw [bndA, if_pos (show ShapeP (k, x, y, a, b) from HP.out)]; rfl, by (repeat (first | with_reducible exact Kk2 | with_reducible apply But.drewN | with_reducible apply But.drew | with_reducible apply But.alloc))⟩
  · have d : decide (ShapeP (k, x, y, a, b)) = false := decide_eq_false h
    go_enter Try.func13, Try.ntmps13
    repeat (first | (go_at_call 10; refine (sgood _ _ _ _ _ _).mono ?_; rw [d]; rintro e w1 ⟨rfl, k1⟩; have hck1 := Kept.cell_eq k1; have hfk1 := Kept.frozen_eq k1; have hzk1 := k1.size; (try simp at hzk1); have nk1 : w.heap.size < w1.heap.size := (by omega); have Kk1 : Kept w w1 := (But.trans (by (repeat (first | with_reducible exact But.refl _ _ _ | with_reducible apply But.drewN | with_reducible apply But.drew | with_reducible apply But.alloc))) k1); clear k1; dsimp only) | go_values | go_skip | go_guarded | go_step | go_upon)
    refine bodyPost_ret (v := .tuple #[.int .i64 (0), .int .i64 (0), .int .i64 (0), .int .i64 (0)]) (by simp [results, Try.results13, go_sem]) rfl ?_
    exact ⟨by simp [bndA, h]; rfl, by (repeat (first | with_reducible exact Kk1 | with_reducible apply But.drewN | with_reducible apply But.drew | with_reducible apply But.alloc))⟩


end Go.Proofs.Ytfibikkbhbmfkaa
