/-
  How far a number is from a span, and when two shapes touch.
-/
import Derived.Test.YtfibikkbhbmfkaaHas9
namespace Go.Proofs.Ytfibikkbhbmfkaa
open Go.ChangeShapes Go.WideShapes Go.ChangeAt Go.RowKit

def gap (x lo hi : Int) : Int := if x < lo then lo - x else if hi < x then x - hi else 0
theorem sgap (x lo hi : Int) (w : World) (h1 : -1000000 ≤ x ∧ x ≤ 1000000) (h2 : -1000000 ≤ lo ∧ lo ≤ 1000000) (h3 : -1000000 ≤ hi ∧ hi ≤ 1000000) : Calls Try.prog 61 #[.int .i64 x, .int .i64 lo, .int .i64 hi] w fun e w' => e = .returned (.int .i64 (gap x lo hi)) ∧ w' = w := by
  rcases Decidable.em (x < lo) with c | c
  · have d1 : decide (x < lo) = true := decide_eq_true c
    go_enter Try.func61, Try.ntmps61
    go_wp2
    go_ret
    exact ⟨ret_int (by unfold gap; split <;> (try split) <;> omega), rfl⟩
  · have d1 : decide (x < lo) = false := decide_eq_false c
    rcases Decidable.em (hi < x) with c2 | c2
    · have d2 : decide (hi < x) = true := decide_eq_true c2
      go_enter Try.func61, Try.ntmps61
      go_wp2
      go_ret
      exact ⟨ret_int (by unfold gap; split <;> (try split) <;> omega), rfl⟩
    · have d2 : decide (hi < x) = false := decide_eq_false c2
      go_enter Try.func61, Try.ntmps61
      go_wp2
      go_ret
      exact ⟨ret_int (by unfold gap; split <;> (try split) <;> omega), rfl⟩
theorem gap_bd {x lo hi : Int} (h1 : -110000 ≤ x ∧ x ≤ 110000) (h2 : -110000 ≤ lo ∧ lo ≤ 110000) (h3 : -110000 ≤ hi ∧ hi ≤ 110000) : 0 ≤ gap x lo hi * gap x lo hi ∧ gap x lo hi * gap x lo hi ≤ 220000 * 220000 := by
  refine sq_bd ?_ ?_ <;> unfold gap <;> split <;> (try split) <;> omega
/-- A disk d and a box p touch. -/
def DiskBox (d p : ShapeD) : Prop := gap d.2.1 (bnd p).1 (bnd p).2.2.1 * gap d.2.1 (bnd p).1 (bnd p).2.2.1 + gap d.2.2.1 (bnd p).2.1 (bnd p).2.2.2 * gap d.2.2.1 (bnd p).2.1 (bnd p).2.2.2 ≤ d.2.2.2.1 * d.2.2.2.1
def TouchP (p q : ShapeD) : Prop :=
  if p.1 = 2 ∧ q.1 = 2 then (p.2.1 - q.2.1) * (p.2.1 - q.2.1) + (p.2.2.1 - q.2.2.1) * (p.2.2.1 - q.2.2.1) ≤ (p.2.2.2.1 + q.2.2.2.1) * (p.2.2.2.1 + q.2.2.2.1)
  else if p.1 = 1 ∧ q.1 = 2 then DiskBox q p else if p.1 = 2 then DiskBox p q
  else (bnd q).1 ≤ (bnd p).2.2.1 ∧ (bnd p).1 ≤ (bnd q).2.2.1 ∧ (bnd q).2.1 ≤ (bnd p).2.2.2 ∧ (bnd p).2.1 ≤ (bnd q).2.2.2
instance (p q : ShapeD) : Decidable (DiskBox p q) := inferInstanceAs (Decidable (_ ≤ _))
instance (p q : ShapeD) : Decidable (TouchP p q) := by unfold TouchP; infer_instance
theorem bnd_bd {p : ShapeD} (h : ShapeP p) : (-101000 ≤ (bnd p).1 ∧ (bnd p).1 ≤ 101000) ∧ (-101000 ≤ (bnd p).2.1 ∧ (bnd p).2.1 ≤ 101000) ∧ (-101000 ≤ (bnd p).2.2.1 ∧ (bnd p).2.2.1 ≤ 101000) ∧ (-101000 ≤ (bnd p).2.2.2 ∧ (bnd p).2.2.2 ≤ 101000) ∧ (bnd p).1 ≤ (bnd p).2.2.1 ∧ (bnd p).2.1 ≤ (bnd p).2.2.2 := by
  obtain ⟨k, x, y, a, b⟩ := p
  obtain ⟨⟨x1, x2⟩, ⟨y1, y2⟩, ⟨a1, a2⟩, hh⟩ := h
  dsimp only at x1 x2 y1 y2 a1 a2 hh
  unfold bnd
  dsimp only
  split <;> dsimp only <;> omega

end Go.Proofs.Ytfibikkbhbmfkaa
