/-
  The room that is drawn.
-/
import Derived.Test.YtaofilinejanjaaDoorCur
import Derived.Test.YtaofilinejanjaaDoorQuiet
namespace Go.Proofs.YtaofilinejanjaaDoor
open Go.ChangeShapes Go.WideShapes Go.ChangeAt Go.RowKit

set_option maxRecDepth 100000
set_option linter.unusedVariables false

theorem nat_of (r : Int) (n : Nat) (h0 : 0 ≤ r) (h1 : r < n) : ∃ k : Nat, r = k ∧ k < n := ⟨r.toNat, by omega, by omega⟩
theorem listed_new (w : World) (xs : List Int) (t : TypeId) : Listed (w.alloc (.cells (xs.map fun z => Value.int .i64 z).toArray t)) w.heap.size xs := by
  intro i hi
  have h : (w.alloc (.cells (xs.map fun z => Value.int .i64 z).toArray t)).heap[w.heap.size]? = some (.cells (xs.map fun z => Value.int .i64 z).toArray t) := heap_alloc_new w _
  unfold World.cell?
  rw [h]
  show (xs.map fun z => Value.int .i64 z).toArray[i]? = _
  rw [List.getElem?_toArray, List.getElem?_map, List.getD_eq_getElem?_getD, List.getElem?_eq_getElem hi]
  rfl
set_option maxHeartbeats 2000000 in
theorem room_ok (w : World) (b : Nat) (K : Int) (h : CurOk w b K) (hK : K ≤ 1152921504606840000) :
    Calls Tryd.prog 18 #[.pointer (some ⟨b, 0, none⟩)] w (Drawn b (K + 4) (fun _ => True) w) := by
  go_enter Tryd.func18, Tryd.ntmps18
  repeat (first | go_values | go_skip | go_guarded | go_step | go_upon)
  go_at_call 20
  refine (one_ok _ b K 20 h (by omega) (by omega)).mono ?_
  rintro e w1 ⟨yes, rfl, hC, hg⟩
  dsimp only
  have hlt := hC.lt
  cases yes
  · repeat (first | go_values | go_skip | go_guarded | go_step | go_upon)
    go_at_call 19
    refine (pick_ok _ b (K + 2) 150 hC (by omega) (by omega)).mono ?_
    rintro e w2 ⟨z, rfl, hz, hC2, hg2⟩
    dsimp only
    repeat (first | go_values | go_skip | go_guarded | go_step | go_upon)
    go_ret
    exact ⟨z, rfl, trivial, hC2.le (by omega), hg.trans hg2⟩
  · repeat (first | go_values | go_skip | go_guarded | go_step | go_upon)
    have HL : Listed (w1.alloc (.cells #[.int .i64 (-1), .int .i64 0, .int .i64 10000, .int .i64 10001] 3)) w1.heap.size [-1, 0, 10000, 10001] := listed_new w1 [-1, 0, 10000, 10001] 3
    go_at_call 21
    refine (among_ok _ b w1.heap.size (K + 2) [-1, 0, 10000, 10001] (hC.alloc _) (by omega) (by omega) HL (by simp) (by simp) 4 rfl).mono ?_
    rintro e w2 ⟨z, rfl, hz, hC2, hg2⟩
    dsimp only
    repeat (first | go_values | go_skip | go_guarded | go_step | go_upon)
    go_ret
    exact ⟨z, rfl, trivial, hC2.le (by omega), hg.trans (((But.refl _ _ _).alloc _).trans hg2)⟩

end Go.Proofs.YtaofilinejanjaaDoor
