/-
  Names that are drawn.
-/
import Derived.Test.YthkfpbknfjapaaaDrawQ17
namespace Go.Proofs.Ythkfpbknfjapaaa
open Go.ChangeShapes Go.WideShapes Go.ChangeAt Go.RowKit

set_option maxRecDepth 100000
set_option linter.unusedVariables false

theorem tex_new (w : World) (xs : List ByteArray) (t : TypeId) : ∀ i, i < xs.length → (w.alloc (.cells (xs.map fun z => Value.string z).toArray t)).cell? ⟨w.heap.size, i, none⟩ = some (.string (xs.getD i ByteArray.empty)) := by
  intro i hi
  have h : (w.alloc (.cells (xs.map fun z => Value.string z).toArray t)).heap[w.heap.size]? = some (.cells (xs.map fun z => Value.string z).toArray t) := heap_alloc_new w _
  unfold World.cell?
  rw [h]
  show (xs.map fun z => Value.string z).toArray[i]? = _
  rw [List.getElem?_toArray, List.getElem?_map, List.getD_eq_getElem?_getD, List.getElem?_eq_getElem hi]
  rfl
set_option maxHeartbeats 1000000 in
theorem of_ok (w : World) (b l n : Nat) (K : Int) (B : Nat) (h : CurOk w b K) (hK : K ≤ 1152921504606840000) (hl : l ≠ b) (hn : 1 < n) (hn2 : n ≤ 100) (hz : ∀ i, i < n → ∃ s : ByteArray, w.cell? ⟨l, i, none⟩ = some (.string s) ∧ s.size ≤ B) :
    Calls Try.prog 86 #[.pointer (some ⟨b, 0, none⟩), .slice (some ⟨l, 0, none⟩) n n] w fun e w' => ∃ s : ByteArray, e = .returned (.string s) ∧ s.size ≤ B ∧ CurOk w' b (K + 2) ∧ But b (b + 1) w w' := by
  go_enter Try.func86, Try.ntmps86
  repeat (first | go_values | go_skip | go_guarded | go_step | go_upon)
  go_at_call 82
  refine (pick_ok _ b K n h (by omega) (by omega)).mono ?_
  rintro e w1 ⟨x, rfl, hx, hC, hg⟩
  dsimp only
  obtain ⟨k, rfl, hk⟩ := nat_of x n hx.1 hx.2
  obtain ⟨s, hc, hs⟩ := hz k hk
  have ck := hg.cell hc (by show l < b ∨ b + 1 ≤ l; omega)
  clear hz hc hx
  repeat (first | go_values | go_skip | go_guarded | go_step | go_upon)
  go_ret
  exact ⟨s, rfl, hs, hC, hg⟩
theorem tex_at (w : World) (L : List ByteArray) (B : Nat) (hB : ∀ k, k < L.length → (L.getD k ByteArray.empty).size ≤ B) : ∀ i, i < L.length → ∃ s : ByteArray, (w.alloc (.cells (L.map fun z => Value.string z).toArray 9)).cell? ⟨w.heap.size, i, none⟩ = some (.string s) ∧ s.size ≤ B := fun i hi => ⟨_, tex_new w L 9 i hi, hB i hi⟩
def nmL : List ByteArray := [⟨#[100, 117, 99, 107]⟩, ⟨#[102, 105, 114, 101]⟩, ⟨#[106, 117, 109, 112]⟩, ⟨#[114, 117, 110]⟩]
set_option maxHeartbeats 1000000 in
theorem act_ok (w : World) (b : Nat) (K : Int) (h : CurOk w b K) (hK : K ≤ 1152921504606840000) :
    Calls Try.prog 83 #[.pointer (some ⟨b, 0, none⟩)] w fun e w' => ∃ s : ByteArray, e = .returned (.string s) ∧ s.size ≤ 300 ∧ CurOk w' b (K + 2) ∧ But b (b + 1) w w' := by
  have hlt := h.lt
  have HT := hide (tex_at w nmL 300 (by decide))
  have HC := hide (h.alloc (.cells (nmL.map fun z => Value.string z).toArray 9))
  clear h
  go_enter Try.func83, Try.ntmps83
  repeat (first | go_values | go_skip | go_guarded | go_step | go_upon)
  go_at_call 86
  refine (of_ok _ b w.heap.size 4 K 300 HC.out (by omega) (by omega) (by omega) (by omega) HT.out).mono ?_
  rintro e w1 ⟨s, rfl, hs, hC, hg⟩
  dsimp only
  clear HT HC
  repeat (first | go_values | go_skip | go_guarded | go_step | go_upon)
  go_ret
  exact ⟨s, rfl, hs, hC, ((But.refl _ _ _).alloc _).trans hg⟩

end Go.Proofs.Ythkfpbknfjapaaa
