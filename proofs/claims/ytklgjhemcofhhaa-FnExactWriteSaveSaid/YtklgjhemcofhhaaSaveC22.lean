/-
  Saves: small things that both sides want.
-/
import Derived.Test.YtklgjhemcofhhaaPure22
import Derived.Test.YtklgjhemcofhhaaOw22
namespace Go.Proofs.Ytklgjhemcofhhaa
open Go.ChangeShapes Go.WideShapes Go.ChangeAt Go.RowKit

set_option maxRecDepth 100000
set_option linter.unusedVariables false
set_option linter.unusedSimpArgs false

theorem lit_byt (w : World) (l : List BytD) (hl : l.length ≤ 100) : BytO (w.alloc (.cells (l.flatMap bytC).toArray 5)) w.heap.size (w.heap.size + 1) (.slice (some ⟨w.heap.size, 0, none⟩) l.length l.length) l := by
  have h1 : (l.flatMap bytC).length = l.length := by rw [flat_len 1 bytC bytC_len]; omega
  refine ⟨⟨by omega, Or.inr ⟨w.heap.size, l.length, (l.flatMap bytC).toArray, rfl, Nat.le_refl _, heap_alloc_new w _, Nat.le_refl _, by unfold maxLen; omega, by simp [h1], by rw [Nat.mul_one]; simp [List.take_of_length_le (Nat.le_of_eq h1)]⟩⟩, fun g hg => by simp [Value.ownBlock] at hg; omega⟩
theorem iversion (x : Int) (w : World) : Calls Try.prog 29 #[.int .i64 x] w fun e w' => e = .returned (.bool (decide (1 ≤ x ∧ x ≤ 250))) ∧ w' = w := by
  go_enter Try.func29, Try.ntmps29
  go_wp2
  all_goals
    go_ret
    exact ⟨ret_bool (by first | (rw [Bool.eq_iff_iff]; simp; omega) | (simp; omega)), rfl⟩
theorem mark_cells (w : World) (cs ds : List BytD) (m : Nat × Nat) : ∀ j u, (cs.flatMap bytC)[j]? = some u → ((w.alloc (.cells (cs.flatMap bytC).toArray 5 m)).alloc (.cells (ds.flatMap bytC).toArray 5)).cell? ((⟨w.heap.size, 0, none⟩ : Addr).add j) = some u := fun j u hj => by
  rw [Go.WideShapes.add_plain, Nat.zero_add]
  have h1 : (w.alloc (.cells (cs.flatMap bytC).toArray 5 m)).heap[w.heap.size]? = some (.cells (cs.flatMap bytC).toArray 5 m) := heap_alloc_new w _
  have h2 : ((w.alloc (.cells (cs.flatMap bytC).toArray 5 m)).alloc (.cells (ds.flatMap bytC).toArray 5)).heap[w.heap.size]? = some (.cells (cs.flatMap bytC).toArray 5 m) := (Go.heap_alloc_old _ _ (Array.getElem?_eq_some_iff.1 h1).1).trans h1
  rw [cell_of_row _ w.heap.size j _ 5 m h2]
  rw [List.getElem?_toArray]
  exact hj
theorem mark_cells2 (w : World) (cs ds : List BytD) (m : Nat × Nat) : ∀ j u, (ds.flatMap bytC)[j]? = some u → ((w.alloc (.cells (cs.flatMap bytC).toArray 5 m)).alloc (.cells (ds.flatMap bytC).toArray 5)).cell? ((⟨w.heap.size + 1, 0, none⟩ : Addr).add j) = some u := fun j u hj => by
  rw [Go.WideShapes.add_plain, Nat.zero_add]
  have := (Loc.new (w.alloc (.cells (cs.flatMap bytC).toArray 5 m)) (ds.flatMap bytC) 5).cell j hj
  rw [World.size_alloc] at this
  exact this
/-- What a save is of: nothing, or its bytes. -/
def saveR (version : Int) (l : List ValD) : List UInt8 := if (1 ≤ version ∧ version ≤ 250) ∧ ValsP l then saveB version l else []
theorem vals_small {l : List ValD} (h : ValsP l) : l.length ≤ 30 ∧ ∀ d ∈ l, d.1.size ≤ 20 ∧ d.2.2.size ≤ 100 := by
  refine ⟨by have := h.2.1; rwa [namesOf_len] at this, fun d hd => ⟨?_, h.1 d hd⟩⟩
  obtain ⟨j, hj⟩ := List.mem_iff_getElem?.1 hd
  have hk := h.2.2 j (by rw [namesOf_len]; exact (List.getElem?_eq_some_iff.1 hj).1)
  by_cases hb : nameB d.1 = true
  · exact ((nameB_iff d.1).1 hb).2.1
  · exact absurd hk (key_no (namesOf_get hj) (by simpa using hb))
theorem take_value_len (l : List ValD) (h : ∀ d ∈ l, d.1.size ≤ 20 ∧ d.2.2.size ≤ 100) (k : Nat) : ((l.take k).flatMap valueB).length ≤ 130 * l.length := by
  have := flat_value_len (l.take k) (fun d hd => h d (List.mem_of_mem_take hd))
  have h2 : (l.take k).length ≤ l.length := by rw [List.length_take]; omega
  omega

end Go.Proofs.Ytklgjhemcofhhaa
