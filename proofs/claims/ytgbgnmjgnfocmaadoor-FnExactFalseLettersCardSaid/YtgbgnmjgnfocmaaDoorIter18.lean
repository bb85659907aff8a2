/-
  Going over a text rune by rune, in memory.
-/
import Derived.Test.YtgbgnmjgnfocmaaDoorApp18
import Derived.Test.YtgbgnmjgnfocmaaDoorRunP18
import Derived.RangeFuncRecord
namespace Go.Proofs.YtgbgnmjgnfocmaaDoor
open Go.ChangeShapes Go.WideShapes Go.ChangeAt Go.RowKit

set_option maxRecDepth 100000
set_option linter.unusedVariables false

theorem run_next_at {P : Program} (W : World) (B : Nat) (s : ByteArray) (pos : Nat) (ty : TypeId) (hB : W.heap[B]? = some (.stringIter s pos)) (h : pos < s.size) :
    (Instr.next (.pointer (some ⟨B, 0, none⟩)) true ty).run P W = .ok (.tuple #[.bool true, .int .i64 pos, .int .i32 (runM s pos).1]) (W.putObj B (.stringIter s (pos + (runM s pos).2))) := by
  simp only [Instr.next, getObj, setObj, Sem.run_bind, Sem.run, hB, Result.andThen, h, if_true, World.putObj]
  simp [goInt]
theorem run_next_off {P : Program} (W : World) (B : Nat) (s : ByteArray) (pos : Nat) (ty : TypeId) (hB : W.heap[B]? = some (.stringIter s pos)) (h : ¬ pos < s.size) :
    (Instr.next (.pointer (some ⟨B, 0, none⟩)) true ty).run P W = .ok (.tuple #[.bool false]) W := by
  simp [Instr.next, getObj, Sem.run, hB, h]
theorem But.putObj {lo hi : Nat} {a b : World} (h : But lo hi a b) (B : Nat) (o : Obj) (h1 : a.heap.size ≤ B ∨ lo ≤ B ∧ B < hi) : But lo hi a (b.putObj B o) := by
  refine ⟨h.os, h.out, by have := h.size; simpa [World.putObj] using this, fun k hk ho => ?_⟩
  rw [World.putObj_heap_other (by omega)]
  exact h.block k hk ho
theorem but_put (W : World) (B : Nat) (o : Obj) : But B (B + 1) W (W.putObj B o) := (But.refl _ _ W).putObj B o (by omega)
theorem put_same (W : World) (B : Nat) (o o' : Obj) (h : W.heap[B]? = some o) : (W.putObj B o').heap[B]? = some o' := World.putObj_heap_same (Array.getElem?_eq_some_iff.1 h).1
theorem size_put (W : World) (B : Nat) (o : Obj) : (W.putObj B o).heap.size = W.heap.size := by simp [World.putObj]

end Go.Proofs.YtgbgnmjgnfocmaaDoor
