/-
  Blocks as plain data, and how they lie in memory.
-/
import Derived.Test.YtnfkgnbhdhpnmaaNum
namespace Go.Proofs.Ytnfkgnbhdhpnmaa
open Go.ChangeShapes Go.WideShapes Go.ChangeAt Go.RowKit

/-- Blocks: wide, high, deep and their cells. -/
abbrev BlocksD := Int × Int × Int × List Int
def BlocksAt (w : World) (v : Value) (c : BlocksD) : Prop := ∃ s, v = .agg #[.int .i64 c.1, .int .i64 c.2.1, .int .i64 c.2.2.1, s] ∧ NumAt w s c.2.2.2
def BlocksO (w : World) (lo hi : Nat) (v : Value) (c : BlocksD) : Prop := ∃ s, v = .agg #[.int .i64 c.1, .int .i64 c.2.1, .int .i64 c.2.2.1, s] ∧ NumO w lo hi s c.2.2.2
section
variable {w w' : World} {v : Value} {c : BlocksD} {lo hi lo' hi' : Nat}
theorem BlocksAt.kept (h : BlocksAt w v c) (k : Kept w w') : BlocksAt w' v c := by obtain ⟨s, e, h⟩ := h; exact ⟨s, e, h.kept k⟩
theorem BlocksO.kept (h : BlocksO w lo hi v c) (k : Kept w w') : BlocksO w' lo hi v c := by obtain ⟨s, e, h⟩ := h; exact ⟨s, e, h.kept k⟩
theorem BlocksO.but (h : BlocksO w lo hi v c) (k : But lo' hi' w w') (ho : hi ≤ lo' ∨ hi' ≤ lo) : BlocksO w' lo hi v c := by obtain ⟨s, e, h⟩ := h; exact ⟨s, e, h.but k ho⟩
theorem BlocksO.mono (h : BlocksO w lo hi v c) (h1 : lo' ≤ lo) (h2 : hi ≤ hi') : BlocksO w lo' hi' v c := by obtain ⟨s, e, h⟩ := h; exact ⟨s, e, h.mono h1 h2⟩
theorem BlocksO.low (h : BlocksO w lo hi v c) : BlocksO w lo w.heap.size v c := by obtain ⟨s, e, h⟩ := h; exact ⟨s, e, h.low⟩
theorem BlocksO.at (h : BlocksO w lo hi v c) : BlocksAt w v c := by obtain ⟨s, e, h⟩ := h; exact ⟨s, e, h.at⟩
theorem BlocksO.form (h : BlocksO w lo hi v c) : ∃ ao cap, v = .agg #[.int .i64 c.1, .int .i64 c.2.1, .int .i64 c.2.2.1, .slice ao c.2.2.2.length cap] := by
  obtain ⟨s, e, h⟩ := h
  obtain ⟨ao, cap, rfl⟩ := h.form
  exact ⟨ao, cap, e⟩
theorem BlocksAt.form (h : BlocksAt w v c) : ∃ ao cap, v = .agg #[.int .i64 c.1, .int .i64 c.2.1, .int .i64 c.2.2.1, .slice ao c.2.2.2.length cap] := by
  obtain ⟨s, e, h⟩ := h
  obtain ⟨ao, cap, rfl⟩ := row_nil h
  exact ⟨ao, cap, e⟩
theorem BlocksAt.row {x y z : Int} {s : Value} (h : BlocksAt w (.agg #[.int .i64 x, .int .i64 y, .int .i64 z, s]) c) : NumAt w s c.2.2.2 := by
  obtain ⟨s, e, h⟩ := h
  cases e
  exact h
theorem BlocksO.row {x y z : Int} {s : Value} (h : BlocksO w lo hi (.agg #[.int .i64 x, .int .i64 y, .int .i64 z, s]) c) : NumO w lo hi s c.2.2.2 := by
  obtain ⟨s, e, h⟩ := h
  cases e
  exact h
end

end Go.Proofs.Ytnfkgnbhdhpnmaa
