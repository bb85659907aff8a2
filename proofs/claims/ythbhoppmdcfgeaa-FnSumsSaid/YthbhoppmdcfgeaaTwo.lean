/-
  The two turns that are drawn: some floats.
-/
import Derived.Test.YthbhoppmdcfgeaaReals
namespace Go.Proofs.Ythbhoppmdcfgeaa
open Go.ChangeShapes Go.WideShapes Go.ChangeAt Go.RowKit Ieee

def TwoAns (w : World) (e : Ending) (w' : World) : Prop := ∃ a b c d, e = .returned (.tuple #[turnA a b, turnA c d]) ∧ a < 18446744073709551616 ∧ b < 18446744073709551616 ∧ c < 18446744073709551616 ∧ d < 18446744073709551616 ∧ Kept w w'
set_option maxHeartbeats 1000000 in
theorem two_ok (ao : Option Addr) (len cap : Nat) (w : World) (hc : Code w ao len) (hl : len ≤ 1048576) : Calls Try.prog 43 #[.slice ao len cap] w (TwoAns w) := by
  have hW : Grown w ((w.alloc (.cells #[.float .f64 0, .float .f64 0] 29)).alloc (.cells #[.float .f64 0, .float .f64 0] 29)) := ((Grown.refl w).alloc _ _).alloc _ _
  have hcur : CurOk (((w.alloc (.cells #[.float .f64 0, .float .f64 0] 29)).alloc (.cells #[.float .f64 0, .float .f64 0] 29)).alloc (.cells #[.slice ao len cap, .int .i64 0, .int .u64 0] 58)) (w.heap.size + 1 + 1) 0 := by
    have := (hc.kept (Kept.of hW)).cur (cap := cap) (t := 58) hl
    simpa using this
  go_enter Try.func43, Try.ntmps43
  go_wp2_with fail
  refine (real_ok _ (w.heap.size + 1 + 1) 0 hcur (by omega)).mono ?_
  rintro e w1 ⟨a, rfl, ha, hC1, hg1⟩
  go_wp2_with fail
  refine (real_ok _ (w.heap.size + 1 + 1) (0 + 20) hC1 (by omega)).mono ?_
  rintro e w2 ⟨b, rfl, hb, hC2, hg2⟩
  go_wp2_with fail
  refine (real_ok _ (w.heap.size + 1 + 1) (0 + 20 + 20) hC2 (by omega)).mono ?_
  rintro e w3 ⟨c, rfl, hcc, hC3, hg3⟩
  go_wp2_with fail
  refine (real_ok _ (w.heap.size + 1 + 1) (0 + 20 + 20 + 20) hC3 (by omega)).mono ?_
  rintro e w4 ⟨d, rfl, hd, hC4, hg4⟩
  have G := hg1.trans (hg2.trans (hg3.trans hg4))
  clear hg1 hg2 hg3 hg4 hC1 hC2 hC3 hC4 hcur
  have c00 : w4.cell? ⟨w.heap.size, 0, none⟩ = some (.float .f64 0) := G.cell (by simp [go_sem]) (by omega)
  have c01 : w4.cell? ⟨w.heap.size, 1, none⟩ = some (.float .f64 0) := G.cell (by simp [go_sem]) (by omega)
  have c10 : w4.cell? ⟨w.heap.size + 1, 0, none⟩ = some (.float .f64 0) := G.cell (by simp [go_sem]) (by omega)
  have c11 : w4.cell? ⟨w.heap.size + 1, 1, none⟩ = some (.float .f64 0) := G.cell (by simp [go_sem]) (by omega)
  have f00 : w4.frozen? ⟨w.heap.size, 0, none⟩ = false := by rw [G.2.1]; simp [go_sem]
  have f01 : w4.frozen? ⟨w.heap.size, 1, none⟩ = false := by rw [G.2.1]; simp [go_sem]
  have f10 : w4.frozen? ⟨w.heap.size + 1, 0, none⟩ = false := by rw [G.2.1]; simp [go_sem]
  have f11 : w4.frozen? ⟨w.heap.size + 1, 1, none⟩ = false := by rw [G.2.1]; simp [go_sem]
  have HK : Hid (Kept w w4) := by
    have hk : KB (w.heap.size + 1 + 1) ((w.alloc (.cells #[.float .f64 0, .float .f64 0] 29)).alloc (.cells #[.float .f64 0, .float .f64 0] 29)) w4 := (KB.of (GrownBut.of ((Grown.refl _).alloc _ _))).trans (KB.of G)
    have hk2 : Kept ((w.alloc (.cells #[.float .f64 0, .float .f64 0] 29)).alloc (.cells #[.float .f64 0, .float .f64 0] 29)) w4 := by
      have e : (w.heap.size + 1 + 1) = ((w.alloc (.cells #[.float .f64 0, .float .f64 0] 29)).alloc (.cells #[.float .f64 0, .float .f64 0] 29)).heap.size := by simp
      have G' := KB.of G
      rw [e] at G'
      exact G'.new
    exact (Kept.of hW).trans hk2
  clear G hW hc
  go_wp2
  have k : Kept w w4 := HK
  refine bodyPost_ret (v := .tuple #[turnA a b, turnA c d]) (by simp [results, Try.results43, go_sem, c00, c01, c10, c11]) rfl ?_
  exact ⟨a, b, c, d, rfl, ha, hb, hcc, hd, (((k.setCell (by simp) _).setCell (by simp) _).setCell (by simp) _).setCell (by simp) _⟩
theorem drawTurns (ao : Option Addr) (len cap : Nat) (w : World) (hc : Code w ao len) (hl : len ≤ 1048576) : Calls Try.prog 16 #[.slice ao len cap] w (TwoAns w) := by
  go_enter Try.func16, Try.ntmps16
  go_wp2_with fail
  have hW : Grown w ((w.alloc (.cells #[.float .f64 0, .float .f64 0] 29)).alloc (.cells #[.float .f64 0, .float .f64 0] 29)) := ((Grown.refl w).alloc _ _).alloc _ _
  refine (two_ok ao len cap _ (hc.kept (Kept.of hW)) hl).mono ?_
  rintro e w4 ⟨a, b, c, d, rfl, ha, hb, hcc, hd, k4⟩
  have c00 : w4.cell? ⟨w.heap.size, 0, none⟩ = some (.float .f64 0) := k4.cell (by simp [go_sem])
  have c01 : w4.cell? ⟨w.heap.size, 1, none⟩ = some (.float .f64 0) := k4.cell (by simp [go_sem])
  have c10 : w4.cell? ⟨w.heap.size + 1, 0, none⟩ = some (.float .f64 0) := k4.cell (by simp [go_sem])
  have c11 : w4.cell? ⟨w.heap.size + 1, 1, none⟩ = some (.float .f64 0) := k4.cell (by simp [go_sem])
  have fr : ∀ i o, i < w.heap.size + 1 + 1 → w4.frozen? ⟨i, o, none⟩ = ((w.alloc (.cells #[.float .f64 0, .float .f64 0] 29)).alloc (.cells #[.float .f64 0, .float .f64 0] 29)).frozen? ⟨i, o, none⟩ := fun i o hi => World.frozen?_of_block (a := ⟨i, o, none⟩) (k4.block i (by simpa using hi))
  have f00 : w4.frozen? ⟨w.heap.size, 0, none⟩ = false := by rw [fr _ _ (by omega)]; simp [go_sem]
  have f01 : w4.frozen? ⟨w.heap.size, 1, none⟩ = false := by rw [fr _ _ (by omega)]; simp [go_sem]
  have f10 : w4.frozen? ⟨w.heap.size + 1, 0, none⟩ = false := by rw [fr _ _ (by omega)]; simp [go_sem]
  have f11 : w4.frozen? ⟨w.heap.size + 1, 1, none⟩ = false := by rw [fr _ _ (by omega)]; simp [go_sem]
  have HK : Hid (Kept w w4) := (Kept.of hW).trans k4
  clear fr k4 hW hc
  go_wp2
  have k : Kept w w4 := HK
  refine bodyPost_ret (v := .tuple #[turnA a b, turnA c d]) (by simp [results, Try.results16, go_sem, c00, c01, c10, c11]) rfl ?_
  exact ⟨a, b, c, d, rfl, ha, hb, hcc, hd, (((k.setCell (by simp) _).setCell (by simp) _).setCell (by simp) _).setCell (by simp) _⟩
end Go.Proofs.Ythbhoppmdcfgeaa
