/-
  Bits as plain data, and how they lie in memory.
-/
import Derived.Test.YtaadlhcpgjibeaaDoorBytM
namespace Go.Proofs.YtaadlhcpgjibeaaDoor
open Go.ChangeShapes Go.WideShapes Go.ChangeAt Go.RowKit

/-- Bits: how many, and the bytes. -/
abbrev BitsD := Int × List UInt8
def BitsAt (w : World) (v : Value) (c : BitsD) : Prop := ∃ s, v = .agg #[.int .i64 c.1, s] ∧ BytAt w s c.2
def BitsO (w : World) (lo hi : Nat) (v : Value) (c : BitsD) : Prop := ∃ s, v = .agg #[.int .i64 c.1, s] ∧ BytO w lo hi s c.2
section
variable {w w' : World} {v : Value} {c : BitsD} {lo hi lo' hi' : Nat}
theorem BitsAt.kept (h : BitsAt w v c) (k : Kept w w') : BitsAt w' v c := by obtain ⟨s, e, h⟩ := h; exact ⟨s, e, h.kept k⟩
theorem BitsO.kept (h : BitsO w lo hi v c) (k : Kept w w') : BitsO w' lo hi v c := by obtain ⟨s, e, h⟩ := h; exact ⟨s, e, h.kept k⟩
theorem BitsO.but (h : BitsO w lo hi v c) (k : But lo' hi' w w') (ho : hi ≤ lo' ∨ hi' ≤ lo) : BitsO w' lo hi v c := by obtain ⟨s, e, h⟩ := h; exact ⟨s, e, h.but k ho⟩
theorem BitsO.mono (h : BitsO w lo hi v c) (h1 : lo' ≤ lo) (h2 : hi ≤ hi') : BitsO w lo' hi' v c := by obtain ⟨s, e, h⟩ := h; exact ⟨s, e, h.mono h1 h2⟩
theorem BitsO.low (h : BitsO w lo hi v c) : BitsO w lo w.heap.size v c := by obtain ⟨s, e, h⟩ := h; exact ⟨s, e, h.low⟩
theorem BitsO.at (h : BitsO w lo hi v c) : BitsAt w v c := by obtain ⟨s, e, h⟩ := h; exact ⟨s, e, h.at⟩
theorem BitsO.form (h : BitsO w lo hi v c) : ∃ ao cap, v = .agg #[.int .i64 c.1, .slice ao c.2.length cap] := by
  obtain ⟨s, e, h⟩ := h
  obtain ⟨ao, cap, rfl⟩ := h.form
  exact ⟨ao, cap, e⟩
theorem BitsAt.form (h : BitsAt w v c) : ∃ ao cap, v = .agg #[.int .i64 c.1, .slice ao c.2.length cap] := by
  obtain ⟨s, e, h⟩ := h
  obtain ⟨ao, cap, rfl⟩ := row_nil h
  exact ⟨ao, cap, e⟩
theorem BitsAt.row {x : Int} {s : Value} (h : BitsAt w (.agg #[.int .i64 x, s]) c) : BytAt w s c.2 := by
  obtain ⟨s, e, h⟩ := h
  cases e
  exact h
theorem BitsO.row {x : Int} {s : Value} (h : BitsO w lo hi (.agg #[.int .i64 x, s]) c) : BytO w lo hi s c.2 := by
  obtain ⟨s, e, h⟩ := h
  cases e
  exact h
end

end Go.Proofs.YtaadlhcpgjibeaaDoor
