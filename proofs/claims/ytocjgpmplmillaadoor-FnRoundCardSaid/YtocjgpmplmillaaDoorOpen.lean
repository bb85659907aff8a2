/-
  A slice of bytes among the arguments: what it holds when the call begins, and that it reads so again behind a call that only lays new blocks.
-/
import Derived.Test.YtocjgpmplmillaaDoorDraw
namespace Go.Proofs.YtocjgpmplmillaaDoor
open Go.ChangeShapes Go.WideShapes Go.ChangeAt Go.RowKit

theorem laidOut : laidOutB Tryd.prog = true := by kernel_rfl
theorem cellsByte : Tryd.prog.cellsOf 5 = 1 := by kernel_rfl

/-- len bytes lie behind ao. -/
def Code (W : World) (ao : Option Addr) (len : Nat) : Prop := ∀ i, i < len → ∃ ab off c, ao = some ⟨ab, off, none⟩ ∧ W.cell? ⟨ab, off + i, none⟩ = some (.int .u8 c) ∧ 0 ≤ c ∧ c ≤ 255

theorem u8_bd (c : Int) (h : (Lit.int .u8 c).wf = true) : 0 ≤ c ∧ c ≤ 255 := by
  have h' : IntKind.u8.min ≤ c ∧ c ≤ IntKind.u8.max := by simpa [Lit.wf] using h
  have e : IntKind.u8.min = 0 := by decide
  have e' : IntKind.u8.max = 255 := by decide
  rw [e, e'] at h'
  exact h'

theorem code_of {H : Type} {enc : TypeId × Value → H} {W : World} {base : Nat} {v0 : Value} {d0 : DataW H} {p0 : List MemPlace} (hval : Value.okWide Tryd.prog W .any base 22 v0)
    (h0 : DataW.Trod enc Tryd.prog W 0 (fun _ => true) true 22 v0 d0 p0) : ∃ ao len cap, v0 = .slice ao len cap ∧ len ≤ maxLen ∧ Code W ao len := by
  obtain ⟨ao, len, cap, rfl⟩ := okWide_slice Tryd.underlying22 hval
  obtain ⟨fuel, hf⟩ := h0
  refine ⟨ao, len, cap, rfl, ?_⟩
  rcases open_ints Tryd.underlying22 Tryd.underlying5 cellsByte hf with ⟨hcs, hx⟩ | ⟨a, len', cap', zs, hcs, _, hl, hm, hz, hx, hcell, hwz⟩
  · simp [Value.cells] at hcs
    obtain ⟨rfl, rfl, rfl⟩ := hcs
    exact ⟨by unfold maxLen; omega, fun i hi => by omega⟩
  · simp [Value.cells] at hcs
    obtain ⟨rfl, rfl, rfl⟩ := hcs
    simp only [if_true] at hz
    refine ⟨Nat.le_trans hl hm, fun i hi => ?_⟩
    have hi' : i < zs.length := by omega
    obtain ⟨ab, off, rfl, hat⟩ := ints_at hcell (by omega)
    refine ⟨ab, off, zs.getD i 0, rfl, hat i hi', ?_⟩
    refine u8_bd _ (hwz _ ?_)
    rw [List.getD_eq_getElem?_getD, List.getElem?_eq_getElem hi']
    exact List.getElem_mem hi'

theorem gsame {W W' : World} (h : Grown W W') {p : MemPlace} (hp : p.block < W.heap.size) : W.sameAt W' p := by
  cases p with
  | cell b o => exact World.cell?_of_block (w := W) (gblock h b hp)
  | map b => exact gblock h b hp
theorem grown_trod {H : Type} {enc : TypeId × Value → H} {t : TypeId} (hr : Tryd.prog.readableRec t = true) (hrow : t < Tryd.prog.types.size) {W W' : World} {sp : Nat → Bool} {v : Value} {d : DataW H} {ps : List MemPlace}
    (h : DataW.Trod enc Tryd.prog W 0 (fun _ => true) true t v d ps) (hg : Grown W W') (hlt : ∀ x ∈ ps, x.block < W.heap.size) (hs : ∀ x ∈ ps, sp x.block = true) : DataW.Trod enc Tryd.prog W' 0 sp true t v d ps :=
  WideElems.Trod_stays laidOut hr hrow h (fun x hx => gsame hg (hlt x hx)) hs

theorem Code.cur {W : World} {ao : Option Addr} {len cap : Nat} {t : TypeId} (h : Code W ao len) (hl : len ≤ 1048576) : CurOk (W.alloc (.cells #[.slice ao len cap, .int .i64 0, .int .u64 0] t)) W.heap.size 0 := by
  refine ⟨ao, len, cap, 0, 0, ⟨by simp [go_sem], by simp [go_sem], by simp [go_sem], ?_, ?_, by omega, by omega, by omega, hl, fun i hi => ?_⟩, by omega⟩
  · rw [frozen?_alloc_cells]; simp [World.frozen?]
  · rw [frozen?_alloc_cells]; simp [World.frozen?]
  · obtain ⟨ab, off, c, e, hc, hb⟩ := h i hi
    have hs := size_of_cell hc
    exact ⟨ab, off, c, e, by omega, (gcell ((Grown.refl W).alloc _ _) ab (off + i) hs).trans hc, hb⟩
end Go.Proofs.YtocjgpmplmillaaDoor
