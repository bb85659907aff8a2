/-
  Clouds as plain data, and how they lie in memory.
-/
import Derived.Test.YtpeiblodefaajaaDoorSpark
namespace Go.Proofs.YtpeiblodefaajaaDoor
open Go.ChangeShapes Go.WideShapes Go.ChangeAt Go.RowKit

/-- A cloud: its seed, its step and its sparks. -/
abbrev CloudD := Int × Int × List SparkD
def CloudAt (w : World) (v : Value) (c : CloudD) : Prop := ∃ s, v = .agg #[.int .i64 c.1, .int .i64 c.2.1, s] ∧ SparkAt w s c.2.2
def CloudO (w : World) (lo hi : Nat) (v : Value) (c : CloudD) : Prop := ∃ s, v = .agg #[.int .i64 c.1, .int .i64 c.2.1, s] ∧ SparkO w lo hi s c.2.2
section
variable {w w' : World} {v : Value} {c : CloudD} {lo hi lo' hi' : Nat}
theorem CloudAt.kept (h : CloudAt w v c) (k : Kept w w') : CloudAt w' v c := by obtain ⟨s, e, h⟩ := h; exact ⟨s, e, h.kept k⟩
theorem CloudO.kept (h : CloudO w lo hi v c) (k : Kept w w') : CloudO w' lo hi v c := by obtain ⟨s, e, h⟩ := h; exact ⟨s, e, h.kept k⟩
theorem CloudO.but (h : CloudO w lo hi v c) (k : But lo' hi' w w') (ho : hi ≤ lo' ∨ hi' ≤ lo) : CloudO w' lo hi v c := by obtain ⟨s, e, h⟩ := h; exact ⟨s, e, h.but k ho⟩
theorem CloudO.mono (h : CloudO w lo hi v c) (h1 : lo' ≤ lo) (h2 : hi ≤ hi') : CloudO w lo' hi' v c := by obtain ⟨s, e, h⟩ := h; exact ⟨s, e, h.mono h1 h2⟩
theorem CloudO.low (h : CloudO w lo hi v c) : CloudO w lo w.heap.size v c := by obtain ⟨s, e, h⟩ := h; exact ⟨s, e, h.low⟩
theorem CloudO.at (h : CloudO w lo hi v c) : CloudAt w v c := by obtain ⟨s, e, h⟩ := h; exact ⟨s, e, h.at⟩
theorem CloudO.form (h : CloudO w lo hi v c) : ∃ ao cap, v = .agg #[.int .i64 c.1, .int .i64 c.2.1, .slice ao c.2.2.length cap] := by
  obtain ⟨s, e, h⟩ := h
  obtain ⟨ao, cap, rfl⟩ := h.form
  exact ⟨ao, cap, e⟩
theorem CloudAt.form (h : CloudAt w v c) : ∃ ao cap, v = .agg #[.int .i64 c.1, .int .i64 c.2.1, .slice ao c.2.2.length cap] := by
  obtain ⟨s, e, h⟩ := h
  obtain ⟨ao, cap, rfl⟩ := row_nil h
  exact ⟨ao, cap, e⟩
theorem CloudAt.row {x y : Int} {s : Value} (h : CloudAt w (.agg #[.int .i64 x, .int .i64 y, s]) c) : SparkAt w s c.2.2 := by
  obtain ⟨s, e, h⟩ := h
  cases e
  exact h
theorem CloudO.row {x y : Int} {s : Value} (h : CloudO w lo hi (.agg #[.int .i64 x, .int .i64 y, s]) c) : SparkO w lo hi s c.2.2 := by
  obtain ⟨s, e, h⟩ := h
  cases e
  exact h
end

end Go.Proofs.YtpeiblodefaajaaDoor
