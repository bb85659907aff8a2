/-
  Small facts that each law over a world wants.
-/
import Derived.Test.YtajelalimiobeaaRows
import Derived.Test.YtajelalimiobeaaOpen
import Derived.Test.YtajelalimiobeaaTo
import Derived.Test.YtajelalimiobeaaEq
import Derived.Test.YtajelalimiobeaaMarksE
import Derived.Test.YtajelalimiobeaaHeld
namespace Go.Proofs.Ytajelalimiobeaa
open Go.ChangeShapes Go.WideShapes Go.ChangeAt Go.RowKit
theorem WAt.form {w : World} {v : Value} {D : WD} (h : WAt w v D) : ∃ ao n cap, v = .agg #[.int .i64 D.1, .int .i64 D.2.1, .slice ao n cap] := by
  obtain ⟨ev, zs, e, h1, _⟩ := h
  obtain ⟨ao, cap, h2⟩ := row_nil h1.1
  exact ⟨ao, _, cap, by rw [e, h2]⟩
theorem WO.form {w : World} {lo hi : Nat} {v : Value} {D : WD} (h : WO w lo hi v D) : ∃ ao n cap, v = .agg #[.int .i64 D.1, .int .i64 D.2.1, .slice ao n cap] := h.at.form
theorem small_of {es : List ED} (h : ecost es ≤ 1048576) : Small es := by
  unfold ecost at h
  refine ⟨by omega, fun e he => ?_⟩
  obtain ⟨i, hi⟩ := List.mem_iff_getElem?.1 he
  have := parts_le hi
  unfold pcost at this
  omega
theorem kcnt_le (es : List ED) : kcnt es ≤ 3 * ecost es := by
  induction es with
  | nil => simp [kcnt]
  | cons e es ih =>
    have h1 : kcnt (e :: es) = (1 + 3 * e.2.length) + kcnt es := by simp [kcnt]
    have h2 : ecost (e :: es) = 1 + pcost e.2 + ecost es := by simp [ecost, esum]; omega
    unfold pcost at h2
    omega
theorem kcnt_of {es : List ED} (h : ecost es ≤ 1048576) : kcnt es ≤ 900000000000 := by have := kcnt_le es; omega
end Go.Proofs.Ytajelalimiobeaa
