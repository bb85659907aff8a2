/-
  Stores as plain data, and how they lie in memory.
-/
import Derived.Test.YtipgffikmnebnaaResident
namespace Go.Proofs.Ytipgffikmnebnaa
open Go.ChangeShapes Go.WideShapes Go.ChangeAt Go.RowKit

/-- A store: its budget, its clock and what is in. -/
abbrev StoreD := Int × Int × List ResidentD
def StoreAt (w : World) (v : Value) (c : StoreD) : Prop := ∃ s, v = .agg #[.int .i64 c.1, .int .i64 c.2.1, s] ∧ ResidentAt w s c.2.2
def StoreO (w : World) (lo hi : Nat) (v : Value) (c : StoreD) : Prop := ∃ s, v = .agg #[.int .i64 c.1, .int .i64 c.2.1, s] ∧ ResidentO w lo hi s c.2.2
section
variable {w w' : World} {v : Value} {c : StoreD} {lo hi lo' hi' : Nat}
theorem StoreAt.kept (h : StoreAt w v c) (k : Kept w w') : StoreAt w' v c := by obtain ⟨s, e, h⟩ := h; exact ⟨s, e, h.kept k⟩
theorem StoreO.kept (h : StoreO w lo hi v c) (k : Kept w w') : StoreO w' lo hi v c := by obtain ⟨s, e, h⟩ := h; exact ⟨s, e, h.kept k⟩
theorem StoreO.but (h : StoreO w lo hi v c) (k : But lo' hi' w w') (ho : hi ≤ lo' ∨ hi' ≤ lo) : StoreO w' lo hi v c := by obtain ⟨s, e, h⟩ := h; exact ⟨s, e, h.but k ho⟩
theorem StoreO.mono (h : StoreO w lo hi v c) (h1 : lo' ≤ lo) (h2 : hi ≤ hi') : StoreO w lo' hi' v c := by obtain ⟨s, e, h⟩ := h; exact ⟨s, e, h.mono h1 h2⟩
theorem StoreO.low (h : StoreO w lo hi v c) : StoreO w lo w.heap.size v c := by obtain ⟨s, e, h⟩ := h; exact ⟨s, e, h.low⟩
theorem StoreO.at (h : StoreO w lo hi v c) : StoreAt w v c := by obtain ⟨s, e, h⟩ := h; exact ⟨s, e, h.at⟩
theorem StoreO.form (h : StoreO w lo hi v c) : ∃ ao cap, v = .agg #[.int .i64 c.1, .int .i64 c.2.1, .slice ao c.2.2.length cap] := by
  obtain ⟨s, e, h⟩ := h
  obtain ⟨ao, cap, rfl⟩ := h.form
  exact ⟨ao, cap, e⟩
theorem StoreAt.form (h : StoreAt w v c) : ∃ ao cap, v = .agg #[.int .i64 c.1, .int .i64 c.2.1, .slice ao c.2.2.length cap] := by
  obtain ⟨s, e, h⟩ := h
  obtain ⟨ao, cap, rfl⟩ := row_nil h
  exact ⟨ao, cap, e⟩
theorem StoreAt.row {x y : Int} {s : Value} (h : StoreAt w (.agg #[.int .i64 x, .int .i64 y, s]) c) : ResidentAt w s c.2.2 := by
  obtain ⟨s, e, h⟩ := h
  cases e
  exact h
theorem StoreO.row {x y : Int} {s : Value} (h : StoreO w lo hi (.agg #[.int .i64 x, .int .i64 y, s]) c) : ResidentO w lo hi s c.2.2 := by
  obtain ⟨s, e, h⟩ := h
  cases e
  exact h
end

end Go.Proofs.Ytipgffikmnebnaa
