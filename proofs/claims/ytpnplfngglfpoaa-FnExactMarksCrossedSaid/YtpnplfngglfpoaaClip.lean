/-
  Clips as plain data, and how they lie in memory.
-/
import Derived.Test.YtpnplfngglfpoaaTrs
import Derived.Test.YtpnplfngglfpoaaMarkF
namespace Go.Proofs.Ytpnplfngglfpoaa
open Go.ChangeShapes Go.WideShapes Go.ChangeAt Go.RowKit

set_option maxRecDepth 100000
set_option linter.unusedVariables false
/-- A clip: its frames, its tracks and its marks. -/
abbrev ClipD := Int × List TrackD × List MarkD
def ClipAt (w : World) (v : Value) (c : ClipD) : Prop := ∃ s t, v = .agg #[.int .i64 c.1, s, t] ∧ TrsAt w s c.2.1 ∧ MarkAt w t c.2.2
def ClipO (w : World) (lo hi : Nat) (v : Value) (c : ClipD) : Prop := ∃ s t m, v = .agg #[.int .i64 c.1, s, t] ∧ (lo ≤ m ∧ m ≤ hi) ∧ TrsO w lo m s c.2.1 ∧ MarkO w m hi t c.2.2
section
variable {w w' : World} {v : Value} {c : ClipD} {lo hi lo' hi' : Nat}
theorem ClipAt.kept (h : ClipAt w v c) (k : Kept w w') : ClipAt w' v c := by obtain ⟨s, t, e, h, h'⟩ := h; exact ⟨s, t, e, h.kept k, h'.kept k⟩
theorem ClipO.but (h : ClipO w lo hi v c) (k : But lo' hi' w w') (ho : hi ≤ lo' ∨ hi' ≤ lo) : ClipO w' lo hi v c := by
  obtain ⟨s, t, m, e, hm, g, g'⟩ := h
  exact ⟨s, t, m, e, hm, g.but k (by omega), g'.but k (by omega)⟩
theorem ClipO.kept (h : ClipO w lo hi v c) (k : Kept w w') : ClipO w' lo hi v c := h.but k (by omega)
theorem ClipO.mono (h : ClipO w lo hi v c) (h1 : lo' ≤ lo) (h2 : hi ≤ hi') : ClipO w lo' hi' v c := by
  obtain ⟨s, t, m, e, hm, g, g'⟩ := h
  exact ⟨s, t, m, e, by omega, g.mono h1 (Nat.le_refl _), g'.mono (Nat.le_refl _) h2⟩
theorem ClipO.at (h : ClipO w lo hi v c) : ClipAt w v c := by
  obtain ⟨s, t, m, e, hm, g, g'⟩ := h
  exact ⟨s, t, e, g.at, g'.at⟩
theorem ClipAt.form (h : ClipAt w v c) : ∃ a1 p1 a2 p2, v = .agg #[.int .i64 c.1, .slice a1 c.2.1.length p1, .slice a2 c.2.2.length p2] := by
  obtain ⟨s, t, e, h, h'⟩ := h
  obtain ⟨a1, p1, rfl⟩ := h.form
  obtain ⟨a2, p2, rfl⟩ := row_nil h'
  exact ⟨a1, p1, a2, p2, e⟩
theorem ClipO.form (h : ClipO w lo hi v c) : ∃ a1 p1 a2 p2, v = .agg #[.int .i64 c.1, .slice a1 c.2.1.length p1, .slice a2 c.2.2.length p2] := h.at.form
theorem ClipAt.row {x : Int} {s t : Value} (h : ClipAt w (.agg #[.int .i64 x, s, t]) c) : TrsAt w s c.2.1 ∧ MarkAt w t c.2.2 := by
  obtain ⟨s, t, e, h⟩ := h
  cases e
  exact h
theorem ClipO.row {x : Int} {s t : Value} (h : ClipO w lo hi (.agg #[.int .i64 x, s, t]) c) : ∃ m, (lo ≤ m ∧ m ≤ hi) ∧ TrsO w lo m s c.2.1 ∧ MarkO w m hi t c.2.2 := by
  obtain ⟨s, t, m, e, h⟩ := h
  cases e
  exact ⟨m, h⟩
end
def clipCost (c : ClipD) : Nat := trsCost c.2.1 + markCost c.2.2
def ClipFit (c : ClipD) : Prop := (c.2.1.length ≤ 9223372036854775807 ∧ TrsFit c.2.1) ∧ c.2.2.length ≤ 9223372036854775807 ∧ ∀ p ∈ c.2.2, p.2.size ≤ 9223372036854775807
def cval (c : ClipD) (s t : Value) : Value := .agg #[.int .i64 c.1, s, t]

end Go.Proofs.Ytpnplfngglfpoaa
