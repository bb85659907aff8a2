/-
  Sheets as plain data, and how they lie in memory.
-/
import Derived.Test.YtoimpkhgdpkhkaaNumM
namespace Go.Proofs.Ytoimpkhgdpkhkaa
open Go.ChangeShapes Go.WideShapes Go.ChangeAt Go.RowKit

/-- A sheet: wide, high and its tiles. -/
abbrev SheetD := Int × Int × List Int
def SheetAt (w : World) (v : Value) (c : SheetD) : Prop := ∃ s, v = .agg #[.int .i64 c.1, .int .i64 c.2.1, s] ∧ NumAt w s c.2.2
def SheetO (w : World) (lo hi : Nat) (v : Value) (c : SheetD) : Prop := ∃ s, v = .agg #[.int .i64 c.1, .int .i64 c.2.1, s] ∧ NumO w lo hi s c.2.2
section
variable {w w' : World} {v : Value} {c : SheetD} {lo hi lo' hi' : Nat}
theorem SheetAt.kept (h : SheetAt w v c) (k : Kept w w') : SheetAt w' v c := by obtain ⟨s, e, h⟩ := h; exact ⟨s, e, h.kept k⟩
theorem SheetO.kept (h : SheetO w lo hi v c) (k : Kept w w') : SheetO w' lo hi v c := by obtain ⟨s, e, h⟩ := h; exact ⟨s, e, h.kept k⟩
theorem SheetO.but (h : SheetO w lo hi v c) (k : But lo' hi' w w') (ho : hi ≤ lo' ∨ hi' ≤ lo) : SheetO w' lo hi v c := by obtain ⟨s, e, h⟩ := h; exact ⟨s, e, h.but k ho⟩
theorem SheetO.mono (h : SheetO w lo hi v c) (h1 : lo' ≤ lo) (h2 : hi ≤ hi') : SheetO w lo' hi' v c := by obtain ⟨s, e, h⟩ := h; exact ⟨s, e, h.mono h1 h2⟩
theorem SheetO.low (h : SheetO w lo hi v c) : SheetO w lo w.heap.size v c := by obtain ⟨s, e, h⟩ := h; exact ⟨s, e, h.low⟩
theorem SheetO.at (h : SheetO w lo hi v c) : SheetAt w v c := by obtain ⟨s, e, h⟩ := h; exact ⟨s, e, h.at⟩
theorem SheetO.form (h : SheetO w lo hi v c) : ∃ ao cap, v = .agg #[.int .i64 c.1, .int .i64 c.2.1, .slice ao c.2.2.length cap] := by
  obtain ⟨s, e, h⟩ := h
  obtain ⟨ao, cap, rfl⟩ := h.form
  exact ⟨ao, cap, e⟩
theorem SheetAt.form (h : SheetAt w v c) : ∃ ao cap, v = .agg #[.int .i64 c.1, .int .i64 c.2.1, .slice ao c.2.2.length cap] := by
  obtain ⟨s, e, h⟩ := h
  obtain ⟨ao, cap, rfl⟩ := row_nil h
  exact ⟨ao, cap, e⟩
theorem SheetAt.row {x y : Int} {s : Value} (h : SheetAt w (.agg #[.int .i64 x, .int .i64 y, s]) c) : NumAt w s c.2.2 := by
  obtain ⟨s, e, h⟩ := h
  cases e
  exact h
theorem SheetO.row {x y : Int} {s : Value} (h : SheetO w lo hi (.agg #[.int .i64 x, .int .i64 y, s]) c) : NumO w lo hi s c.2.2 := by
  obtain ⟨s, e, h⟩ := h
  cases e
  exact h
end

end Go.Proofs.Ytoimpkhgdpkhkaa
