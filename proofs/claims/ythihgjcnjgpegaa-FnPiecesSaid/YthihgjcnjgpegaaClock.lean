/-
  Clocks as plain data, and how they lie in memory.
-/
import Derived.Test.YthihgjcnjgpegaaTimer
namespace Go.Proofs.Ythihgjcnjgpegaa
open Go.ChangeShapes Go.WideShapes Go.ChangeAt Go.RowKit

/-- A clock: its time and its timers. -/
abbrev ClockD := Int × List TimerD
def ClockAt (w : World) (v : Value) (c : ClockD) : Prop := ∃ s, v = .agg #[.int .i64 c.1, s] ∧ TimerAt w s c.2
def ClockO (w : World) (lo hi : Nat) (v : Value) (c : ClockD) : Prop := ∃ s, v = .agg #[.int .i64 c.1, s] ∧ TimerO w lo hi s c.2
section
variable {w w' : World} {v : Value} {c : ClockD} {lo hi lo' hi' : Nat}
theorem ClockAt.kept (h : ClockAt w v c) (k : Kept w w') : ClockAt w' v c := by obtain ⟨s, e, h⟩ := h; exact ⟨s, e, h.kept k⟩
theorem ClockO.kept (h : ClockO w lo hi v c) (k : Kept w w') : ClockO w' lo hi v c := by obtain ⟨s, e, h⟩ := h; exact ⟨s, e, h.kept k⟩
theorem ClockO.but (h : ClockO w lo hi v c) (k : But lo' hi' w w') (ho : hi ≤ lo' ∨ hi' ≤ lo) : ClockO w' lo hi v c := by obtain ⟨s, e, h⟩ := h; exact ⟨s, e, h.but k ho⟩
theorem ClockO.mono (h : ClockO w lo hi v c) (h1 : lo' ≤ lo) (h2 : hi ≤ hi') : ClockO w lo' hi' v c := by obtain ⟨s, e, h⟩ := h; exact ⟨s, e, h.mono h1 h2⟩
theorem ClockO.low (h : ClockO w lo hi v c) : ClockO w lo w.heap.size v c := by obtain ⟨s, e, h⟩ := h; exact ⟨s, e, h.low⟩
theorem ClockO.at (h : ClockO w lo hi v c) : ClockAt w v c := by obtain ⟨s, e, h⟩ := h; exact ⟨s, e, h.at⟩
theorem ClockO.form (h : ClockO w lo hi v c) : ∃ ao cap, v = .agg #[.int .i64 c.1, .slice ao c.2.length cap] := by
  obtain ⟨s, e, h⟩ := h
  obtain ⟨ao, cap, rfl⟩ := h.form
  exact ⟨ao, cap, e⟩
theorem ClockAt.form (h : ClockAt w v c) : ∃ ao cap, v = .agg #[.int .i64 c.1, .slice ao c.2.length cap] := by
  obtain ⟨s, e, h⟩ := h
  obtain ⟨ao, cap, rfl⟩ := row_nil h
  exact ⟨ao, cap, e⟩
theorem ClockAt.row {x : Int} {s : Value} (h : ClockAt w (.agg #[.int .i64 x, s]) c) : TimerAt w s c.2 := by
  obtain ⟨s, e, h⟩ := h
  cases e
  exact h
theorem ClockO.row {x : Int} {s : Value} (h : ClockO w lo hi (.agg #[.int .i64 x, s]) c) : TimerO w lo hi s c.2 := by
  obtain ⟨s, e, h⟩ := h
  cases e
  exact h
end

end Go.Proofs.Ythihgjcnjgpegaa
