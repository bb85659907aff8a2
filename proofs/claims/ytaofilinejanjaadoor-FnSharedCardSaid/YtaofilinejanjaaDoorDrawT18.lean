/-
  One of the texts that are drawn.
-/
import Derived.Test.YtaofilinejanjaaDoorDrawA18
import Derived.Deep.CutBlock
import Derived.Deep.CutRange
import Derived.Deep.DeepCutAuto
namespace Go.Proofs.YtaofilinejanjaaDoor
open Go.ChangeShapes Go.WideShapes Go.ChangeAt Go.RowKit

set_option maxRecDepth 100000
set_option linter.unusedVariables false

def texL : List ByteArray := [⟨#[97]⟩, ⟨#[98]⟩, ⟨#[32]⟩, ⟨#[32]⟩, ⟨#[119, 111]⟩, ⟨#[195, 169]⟩, ⟨#[230, 151, 165]⟩, ⟨#[240, 159, 152, 128]⟩, ⟨#[10]⟩, ⟨#[255]⟩, ⟨#[237, 160, 128]⟩, ⟨#[192, 128]⟩, ⟨#[226, 130]⟩, ⟨#[244, 144, 128, 128]⟩]
theorem tex_new (w : World) (xs : List ByteArray) (t : TypeId) : ∀ i, i < xs.length → (w.alloc (.cells (xs.map fun z => Value.string z).toArray t)).cell? ⟨w.heap.size, i, none⟩ = some (.string (xs.getD i ByteArray.empty)) := by
  intro i hi
  have h : (w.alloc (.cells (xs.map fun z => Value.string z).toArray t)).heap[w.heap.size]? = some (.cells (xs.map fun z => Value.string z).toArray t) := heap_alloc_new w _
  unfold World.cell?
  rw [h]
  show (xs.map fun z => Value.string z).toArray[i]? = _
  rw [List.getElem?_toArray, List.getElem?_map, List.getD_eq_getElem?_getD, List.getElem?_eq_getElem hi]
  rfl
set_option maxHeartbeats 1000000 in
theorem of_ok (w : World) (b l : Nat) (K : Int) (h : CurOk w b K) (hK : K ≤ 1152921504606840000) (hl : l ≠ b) (hz : ∀ i, i < 14 → ∃ s : ByteArray, w.cell? ⟨l, i, none⟩ = some (.string s) ∧ s.size ≤ 4) :
    Calls Tryd.prog 37 #[.pointer (some ⟨b, 0, none⟩), .slice (some ⟨l, 0, none⟩) 14 14] w fun e w' => ∃ s : ByteArray, e = .returned (.string s) ∧ s.size ≤ 4 ∧ CurOk w' b (K + 2) ∧ But b (b + 1) w w' := by
  go_enter Tryd.func37, Tryd.ntmps37
  repeat (first | go_values | go_skip | go_guarded | go_step | go_upon)
  go_at_call 19
  refine (pick_ok _ b K 14 h (by omega) (by omega)).mono ?_
  rintro e w1 ⟨x, rfl, hx, hC, hg⟩
  dsimp only
  obtain ⟨k, rfl, hk⟩ := nat_of x 14 hx.1 hx.2
  obtain ⟨s, hc, hs⟩ := hz k hk
  have ck := hg.cell hc (by show l < b ∨ b + 1 ≤ l; omega)
  clear hz hc hx
  repeat (first | go_values | go_skip | go_guarded | go_step | go_upon)
  go_ret
  exact ⟨s, rfl, hs, hC, hg⟩
theorem tex_at (w w' : World) (b : Nat) (h : But b (b + 1) (w.alloc (.cells (texL.map fun z => Value.string z).toArray 9)) w') (hb : b < w.heap.size) : ∀ i, i < 14 → ∃ s : ByteArray, w'.cell? ⟨w.heap.size, i, none⟩ = some (.string s) ∧ s.size ≤ 4 := by
  intro i hi
  refine ⟨_, h.cell (tex_new w texL 9 i hi) (.inr (by show b + 1 ≤ w.heap.size; omega)), ?_⟩
  have : ∀ k, k < 14 → (texL.getD k ByteArray.empty).size ≤ 4 := by decide
  exact this i hi

end Go.Proofs.YtaofilinejanjaaDoor
