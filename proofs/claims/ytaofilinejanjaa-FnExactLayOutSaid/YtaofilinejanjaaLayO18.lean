/-
  What LayOut answers: free of the program.
-/
import Derived.Test.YtaofilinejanjaaLayP18
import Derived.Test.YtaofilinejanjaaLeaf18
import Derived.Test.YtaofilinejanjaaPlacedT
namespace Go.Proofs.Ytaofilinejanjaa
open Go.ChangeShapes Go.WideShapes Go.ChangeAt Go.RowKit

set_option maxRecDepth 100000
set_option linter.unusedVariables false

def LayOk (l : List BoxD) (wide high : Int) : Prop := BoxesP l ∧ (0 ≤ wide ∧ wide ≤ 10000) ∧ (0 ≤ high ∧ high ≤ 10000)
noncomputable def layR (l : List BoxD) (wide high : Int) : List PlacedD := if dec (LayOk l wide high) then layA l wide high l.length else []
theorem layR_yes {l : List BoxD} {wide high : Int} (h : LayOk l wide high) : layR l wide high = layA l wide high l.length := by unfold layR; rw [dec_yes h]; rfl
theorem layR_no {l : List BoxD} {wide high : Int} (h : ¬ LayOk l wide high) : layR l wide high = [] := by unfold layR; rw [dec_no h]; rfl
theorem layR_len (l : List BoxD) (wide high : Int) : (layR l wide high).length ≤ l.length := by
  unfold layR
  split
  · rw [layA_len]; exact Nat.le_refl _
  · simp
theorem nil_placed (w : World) (lo hi : Nat) : PlacedO w lo hi (.slice none 0 0) [] := ⟨World.ownsRow_nil _ _ _ _, fun g hg => by simp [Value.ownBlock] at hg⟩
theorem info_placedA : (Try.prog.info? 61).map (fun i => (i.zero, i.size, i.bytes)) = some (some (.agg #[.int .i64 0, .int .i64 0, .int .i64 0, .int .i64 0]), 4, 32) := by kernel_rfl
theorem make_placed (n : Nat) (hn : n ≤ 1048576) (w : World) : (Instr.makeSlice 36 (.int .i64 (n : Int)) (.int .i64 (n : Int))).run Try.prog w = .ok (.slice (some ⟨w.heap.size, 0, none⟩) n n) (w.alloc (.cells (madeCells #[.int .i64 0, .int .i64 0, .int .i64 0, .int .i64 0] (n * 4)) 61)) := by
  obtain ⟨i0, hi, hz0, hz1, hz2⟩ := info_parts info_placedA
  have := run_make (P := Try.prog) w 36 61 i0 _ Try.underlying36 hi hz0 .i64 .i64 (n : Int) (n : Int) (by omega) (by omega) (by rw [hz2]; omega) (by omega)
  rw [this, hz1]
  simp [Value.cells]
theorem made_placed (n : Nat) (hn : n ≤ 1048576) (w : World) : PlacedO (w.alloc (.cells (madeCells #[.int .i64 0, .int .i64 0, .int .i64 0, .int .i64 0] (n * 4)) 61)) w.heap.size (w.heap.size + 1) (.slice (some ⟨w.heap.size, 0, none⟩) n n) (List.replicate n placed0) := by
  have hm := row_made w w.heap.size 61 #[.int .i64 0, .int .i64 0, .int .i64 0, .int .i64 0] 4 (by omega) placedC placed0 placedC_len rfl n (Nat.le_refl _) (by unfold maxLen; omega)
  simpa [PlacedO] using hm

end Go.Proofs.Ytaofilinejanjaa
