/-
  What toFloat64S and eqFloat64S answer: a new row of the same floats; that a row is the same as one with the same floats.
-/
import Derived.Test.YthbhoppmdcfgeaaSum
import Derived.Deep.RegionHeld3
namespace Go.Proofs.Ythbhoppmdcfgeaa
open Go.ChangeShapes Go.WideShapes Go.ChangeAt Go.RowKit Ieee

theorem info25 : (Try.prog.info? 25).map (fun i => (i.zero, i.size, i.bytes)) = some (some (.float .f64 0), 1, 8) := by kernel_rfl

/-- What was there is as it was. -/
def Kept (W w' : World) : Prop := W.keptBut w' (fun _ => False) ∧ W.heap.size ≤ w'.heap.size
theorem Kept.refl (W : World) : Kept W W := ⟨World.keptBut_refl _ _, Nat.le_refl _⟩
theorem Kept.trans {a b c : World} (h : Kept a b) (k : Kept b c) : Kept a c := ⟨World.keptBut_trans h.1 k.1, Nat.le_trans h.2 k.2⟩
theorem Kept.of {a b : World} (h : Grown a b) : Kept a b := ⟨h.1, h.2.2⟩
theorem Kept.drewN {a b : World} (h : Kept a b) (n : Nat) : Kept a (b.drewN n) := h
theorem Kept.block {W w1 : World} (h : Kept W w1) (b : Nat) (hb : b < W.heap.size) : w1.heap[b]? = W.heap[b]? := by
  have hk := h.1.2.2 b hb
  cases e1 : W.heap[b]? with
  | none => rw [e1] at hk; simpa using hk
  | some o =>
    rw [e1] at hk
    cases e2 : w1.heap[b]? with
    | none => rw [e2] at hk; cases o <;> simp at hk
    | some o' =>
      rw [e2] at hk
      cases o <;> cases o' <;> simp at hk ⊢ <;> first
        | exact hk
        | (obtain ⟨h1, h2, h3, h4⟩ := hk; exact ⟨Array.ext_getElem? h4, h1, h2⟩)
        | skip
theorem Kept.cell {W w1 : World} (h : Kept W w1) {b o : Nat} {v : Value} (hc : W.cell? ⟨b, o, none⟩ = some v) : w1.cell? ⟨b, o, none⟩ = some v :=
  (World.cell?_of_block (w := W) (a := ⟨b, o, none⟩) (h.block b (World.block_lt_of_cell? W _ hc))).trans hc
theorem Kept.frow {W w1 : World} (h : Kept W w1) {ao : Option Addr} {xs : List Nat} (hr : FRow W ao xs) : FRow w1 ao xs := by
  intro i hi
  obtain ⟨ab, off, e, hc⟩ := hr i hi
  exact ⟨ab, off, e, h.cell hc⟩
theorem Kept.grownBy {W w w' : World} {row : Option Nat} (h : Kept W w) (g : w.grownBy w' row) (hrow : ∀ k, row = some k → W.heap.size ≤ k) : Kept W w' := by
  refine ⟨⟨g.os.trans h.1.1, g.output.trans h.1.2.1, fun i hi => ?_⟩, Nat.le_trans h.2 g.size⟩
  have e : w'.heap[i]? = W.heap[i]? := (g.block i (Nat.lt_of_lt_of_le hi h.2) (fun e => by have := hrow i e.symm; omega)).trans (h.block i hi)
  rw [e]
  cases W.heap[i]? with
  | none => simp
  | some x => cases x <;> simp
theorem Kept.setCell {W w : World} (h : Kept W w) {a : Addr} (ha : W.heap.size ≤ a.block) (v : Value) : Kept W (w.setCell a v) := by
  refine ⟨⟨h.1.1, h.1.2.1, fun i hi => ?_⟩, by have := h.2; simpa [World.setCell] using this⟩
  have e : (w.setCell a v).heap[i]? = w.heap[i]? := by
    simp only [World.setCell, Array.getElem?_modify]
    rw [if_neg (by omega)]
  rw [e]
  exact h.1.2.2 i hi

theorem made_cell (w : World) (n j : Nat) (hj : j < n) : (w.alloc (.cells (madeCells #[.float .f64 0] n) 25)).cell? ⟨w.heap.size, j, none⟩ = some (.float .f64 0) := by
  have h : (w.alloc (.cells (madeCells #[.float .f64 0] n) 25)).heap[w.heap.size]? = some (.cells (madeCells #[.float .f64 0] n) 25) := heap_alloc_new w _
  have e : (madeCells #[Value.float .f64 0] n)[j]? = some (.float .f64 0) := by
    rw [← Array.getElem?_toList, toList_madeCells_one, List.getElem?_replicate, if_pos hj]
  unfold World.cell?
  rw [h]
  exact e

/-- The copy's state behind k rounds. -/
def Copied (w : World) (xs : List Nat) (k : Nat) (wr : World) : Prop :=
  (∀ j, j < xs.length → (wr.cell? ⟨w.heap.size, j, none⟩).isSome = true) ∧ (∀ j, j < k → wr.cell? ⟨w.heap.size, j, none⟩ = some (.float .f64 (xs.getD j 0))) ∧ (∀ j, wr.frozen? ⟨w.heap.size, j, none⟩ = false) ∧ Kept w wr ∧ w.heap.size < wr.heap.size
theorem Copied.step {w : World} {xs : List Nat} {k : Nat} {wr : World} (h : Copied w xs k wr) (hk : k < xs.length) : Copied w xs (k + 1) (wr.setCell ⟨w.heap.size, k, none⟩ (.float .f64 (xs.getD k 0))) := by
  obtain ⟨h1, h2, h3, h4, h5⟩ := h
  have same := World.cell?_setCell_same' wr ⟨w.heap.size, k, none⟩ (.float .f64 (xs.getD k 0)) (h1 k hk)
  have other : ∀ j, j ≠ k → (wr.setCell ⟨w.heap.size, k, none⟩ (.float .f64 (xs.getD k 0))).cell? ⟨w.heap.size, j, none⟩ = wr.cell? ⟨w.heap.size, j, none⟩ := fun j hj => World.cell?_setCell_other _ _ _ _ (fun e => hj (by simpa using e.symm))
  refine ⟨fun j hj => ?_, fun j hj => ?_, fun j => (World.frozen?_setCell _ _ _ _).trans (h3 j), h4.setCell (by simp) _, by simpa [World.setCell] using h5⟩
  · by_cases e : j = k
    · subst e; rw [same]; rfl
    · rw [other j e]; exact h1 j hj
  · by_cases e : j = k
    · subst e; exact same
    · rw [other j e]; exact h2 j (by omega)
theorem Copied.start (w : World) (xs : List Nat) : Copied w xs 0 (w.alloc (.cells (madeCells #[.float .f64 0] xs.length) 25)) :=
  ⟨fun j hj => by rw [made_cell w _ j hj]; rfl, fun j hj => by omega, fun j => by rw [frozen?_alloc_cells]; simp [World.frozen?], Kept.of ((Grown.refl w).alloc _ _), by simp⟩
theorem Copied.frow {w : World} {xs : List Nat} {wr : World} (h : Copied w xs xs.length wr) : FRow wr (some ⟨w.heap.size, 0, none⟩) xs :=
  fun i hi => ⟨w.heap.size, 0, rfl, by rw [Nat.zero_add]; exact h.2.1 i hi⟩

set_option maxHeartbeats 1000000 in
theorem copyS (ao : Option Addr) (cap : Nat) (xs : List Nat) (w : World) (hw : FRow w ao xs) (hl : xs.length ≤ 1048576) :
    Calls Try.prog 23 #[.slice ao xs.length cap] w fun e w' => e = .returned (.slice (some ⟨w.heap.size, 0, none⟩) xs.length xs.length) ∧ FRow w' (some ⟨w.heap.size, 0, none⟩) xs ∧ Kept w w' := by
  obtain ⟨i0, hi, hz0, hz1, hz2⟩ := info_parts info25
  have hmk : (Instr.makeSlice 23 (.int .i64 (xs.length : Int)) (.int .i64 (xs.length : Int))).run Try.prog w = .ok (.slice (some ⟨w.heap.size, 0, none⟩) xs.length xs.length) (w.alloc (.cells (madeCells #[.float .f64 0] xs.length) 25)) := by
    have := run_make (P := Try.prog) w 23 25 i0 (.float .f64 0) Try.underlying23 hi hz0 .i64 .i64 (xs.length : Int) (xs.length : Int) (by omega) (by omega) (by rw [hz2]; omega) (by omega)
    rw [this, hz1]
    simp [Value.cells]
  clear hi hz0 hz1 hz2
  go_enter Try.func23, Try.ntmps23
  go_wp2
  clear hmk
  go_loopw [4] (fun i wr => ∃ k : Nat, k ≤ xs.length ∧ i = .int .i64 k ∧ Copied w xs k wr) (fun i _ => xs.length - (intOf i).toNat)
  case atStart => exact ⟨0, by omega, rfl, Copied.start w xs⟩
  case round =>
    obtain ⟨k, hk, rfl, hcp⟩ := hrel
    by_cases hkl : k < xs.length
    · obtain ⟨ab, off, rfl, hc⟩ := hw k hkl
      have hc' := hcp.2.2.2.1.cell hc
      obtain ⟨u0, hs⟩ := Option.isSome_iff_exists.1 (hcp.1 k hkl)
      have hfz := hcp.2.2.1 k
      have hstep := hcp.step hkl
      have HS : Hid (Copied w xs (k + 1) (wr.setCell ⟨w.heap.size, k, none⟩ (.float .f64 (xs.getD k 0)))) := hstep
      clear hstep hc hcp
      generalize hxv : xs.getD k 0 = x at *
      clear hxv
      go_wp2
      refine ⟨⟨k + 1, hkl, by go_num, HS⟩, by simp [intOf]; omega⟩
    · have hke : k = xs.length := by omega
      subst hke
      go_wp2
      go_ret
      exact ⟨rfl, hcp.frow, hcp.2.2.2.1⟩

set_option maxHeartbeats 1000000 in
theorem eqS (ao bo : Option Addr) (cap cap' : Nat) (xs : List Nat) (w : World) (ha : FRow w ao xs) (hb : FRow w bo xs) (hl : xs.length ≤ 1048576) :
    Calls Try.prog 25 #[.slice ao xs.length cap, .slice bo xs.length cap'] w fun e w' => e = .returned (.bool true) ∧ ∃ n, w' = w.drewN n := by
  go_enter Try.func25, Try.ntmps25
  go_wp2
  go_loopw [5] (fun i wr => ∃ k n : Nat, k ≤ xs.length ∧ i = .int .i64 k ∧ wr = w.drewN n) (fun i _ => xs.length - (intOf i).toNat)
  case atStart => exact ⟨0, 0, by omega, rfl, rfl⟩
  case round =>
    obtain ⟨k, n, hk, rfl, rfl⟩ := hrel
    by_cases hkl : k < xs.length
    · obtain ⟨ab, off, rfl, hc⟩ := ha k hkl
      obtain ⟨ab', off', rfl, hc'⟩ := hb k hkl
      generalize hxv : xs.getD k 0 = x at *
      clear hxv
      have z1 : (0 : Int) ≤ (k : Int) := by omega
      have z2 : (k : Int) < (xs.length : Int) := by omega
      go_wp2_with fail
      go_region_held3 (fun w' => w'.cell? ⟨ab, off + k, none⟩ = some (.float .f64 x) ∧ w'.cell? ⟨ab', off' + k, none⟩ = some (.float .f64 x)) (simp [go_sem, *])
        (first | (go_at_call 24; refine (sameFloat _ _ rfl _).mono ?_; rintro e w' ⟨rfl, rfl⟩))
      go_wp2
      exact ⟨⟨k + 1, _, hkl, by go_num, rfl⟩, by simp [intOf]; omega⟩
    · have hke : k = xs.length := by omega
      subst hke
      go_wp2
      go_ret
      exact ⟨rfl, _, rfl⟩
end Go.Proofs.Ythbhoppmdcfgeaa
