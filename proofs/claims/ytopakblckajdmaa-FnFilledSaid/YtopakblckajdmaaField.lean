/-
  Fields as plain data, and how they lie in memory.
-/
import Derived.Test.YtopakblckajdmaaNumM
namespace Go.Proofs.Ytopakblckajdmaa
open Go.ChangeShapes Go.WideShapes Go.ChangeAt Go.RowKit

/-- A field: wide, high and its tiles. -/
abbrev FieldD := Int × Int × List Int
def FieldAt (w : World) (v : Value) (c : FieldD) : Prop := ∃ s, v = .agg #[.int .i64 c.1, .int .i64 c.2.1, s] ∧ NumAt w s c.2.2
def FieldO (w : World) (lo hi : Nat) (v : Value) (c : FieldD) : Prop := ∃ s, v = .agg #[.int .i64 c.1, .int .i64 c.2.1, s] ∧ NumO w lo hi s c.2.2
section
variable {w w' : World} {v : Value} {c : FieldD} {lo hi lo' hi' : Nat}
theorem FieldAt.kept (h : FieldAt w v c) (k : Kept w w') : FieldAt w' v c := by obtain ⟨s, e, h⟩ := h; exact ⟨s, e, h.kept k⟩
theorem FieldO.kept (h : FieldO w lo hi v c) (k : Kept w w') : FieldO w' lo hi v c := by obtain ⟨s, e, h⟩ := h; exact ⟨s, e, h.kept k⟩
theorem FieldO.but (h : FieldO w lo hi v c) (k : But lo' hi' w w') (ho : hi ≤ lo' ∨ hi' ≤ lo) : FieldO w' lo hi v c := by obtain ⟨s, e, h⟩ := h; exact ⟨s, e, h.but k ho⟩
theorem FieldO.mono (h : FieldO w lo hi v c) (h1 : lo' ≤ lo) (h2 : hi ≤ hi') : FieldO w lo' hi' v c := by obtain ⟨s, e, h⟩ := h; exact ⟨s, e, h.mono h1 h2⟩
theorem FieldO.low (h : FieldO w lo hi v c) : FieldO w lo w.heap.size v c := by obtain ⟨s, e, h⟩ := h; exact ⟨s, e, h.low⟩
theorem FieldO.at (h : FieldO w lo hi v c) : FieldAt w v c := by obtain ⟨s, e, h⟩ := h; exact ⟨s, e, h.at⟩
theorem FieldO.form (h : FieldO w lo hi v c) : ∃ ao cap, v = .agg #[.int .i64 c.1, .int .i64 c.2.1, .slice ao c.2.2.length cap] := by
  obtain ⟨s, e, h⟩ := h
  obtain ⟨ao, cap, rfl⟩ := h.form
  exact ⟨ao, cap, e⟩
theorem FieldAt.form (h : FieldAt w v c) : ∃ ao cap, v = .agg #[.int .i64 c.1, .int .i64 c.2.1, .slice ao c.2.2.length cap] := by
  obtain ⟨s, e, h⟩ := h
  obtain ⟨ao, cap, rfl⟩ := row_nil h
  exact ⟨ao, cap, e⟩
theorem FieldAt.row {x y : Int} {s : Value} (h : FieldAt w (.agg #[.int .i64 x, .int .i64 y, s]) c) : NumAt w s c.2.2 := by
  obtain ⟨s, e, h⟩ := h
  cases e
  exact h
theorem FieldO.row {x y : Int} {s : Value} (h : FieldO w lo hi (.agg #[.int .i64 x, .int .i64 y, s]) c) : NumO w lo hi s c.2.2 := by
  obtain ⟨s, e, h⟩ := h
  cases e
  exact h
end

end Go.Proofs.Ytopakblckajdmaa
