/-
  What the loop over the parts holds.
-/
import Derived.Test.YtoimpkhgdpkhkaaDoorBack20
namespace Go.Proofs.YtoimpkhgdpkhkaaDoor
open Go.ChangeShapes Go.WideShapes Go.ChangeAt Go.RowKit

set_option maxRecDepth 100000
set_option linter.unusedVariables false
set_option linter.unusedSimpArgs false

open Go.Shelf
/-- A box of many cells. -/
def RowB (W : World) (B : Nat) (t : TypeId) (cs : Array Value) : Prop := W.heap[B]? = some (.cells cs t (0, 0))
theorem RowB.loc {W : World} {B : Nat} {t : TypeId} {cs : List Value} (h : RowB W B t cs.toArray) : Loc W B cs := ⟨t, h⟩
theorem RowB.lt {W : World} {B : Nat} {t : TypeId} {cs : Array Value} (h : RowB W B t cs) : B < W.heap.size := (Array.getElem?_eq_some_iff.1 h).1
theorem rowb_own {β : Type} (B : Nat) (t : TypeId) (f : β → Array Value) : Own (fun s W => RowB W B t (f s)) := fun s X Y row hs hg hrow =>
  (hg.block B hs.lt (fun e' => by obtain ⟨o, ho, hc⟩ := hrow B e'.symm; rw [show X.heap[B]? = _ from hs] at ho; cases ho; cases hc)).trans hs
theorem RowB.alloc {W : World} {B : Nat} {t : TypeId} {cs : Array Value} (h : RowB W B t cs) (o : Obj) : RowB (W.alloc o) B t cs := ((World.grownBy_alloc W o none).block B h.lt (by simp)).trans h
theorem RowB.other {W : World} {B b j : Nat} {t : TypeId} {cs : Array Value} (h : RowB W B t cs) (hne : B ≠ b) (v : Value) : RowB (W.setCell ⟨b, j, none⟩ v) B t cs := by
  unfold RowB at h ⊢
  rw [← h]
  exact Below.heap_setCell _ _ _ B (by omega)
theorem RowB.set {W : World} {B : Nat} {t : TypeId} {cs : List Value} (h : RowB W B t cs.toArray) (j : Nat) (v : Value) : RowB (W.setCell ⟨B, j, none⟩ v) B t (cs.set j v).toArray := by
  obtain ⟨hlt, hk⟩ := Array.getElem?_eq_some_iff.1 h
  show (W.heap.modify B _)[B]? = _
  rw [Array.getElem?_eq_getElem (by rw [Array.size_modify]; exact hlt), Array.getElem_modify_self, hk]
  simp
def pw (d : OrdD) : Int := ([8, 2, 256, 256, 4096] : List Int).getD d.val 1
theorem pw0 : pw 0 = 8 := rfl
theorem pw1 : pw 1 = 2 := rfl
theorem pw2 : pw 2 = 256 := rfl
theorem pw3 : pw 3 = 256 := rfl
theorem pw4 : pw 4 = 4096 := rfl
def stepS (s : Int × List Int) (x : BkE) : Int × List Int := (s.1 / pw x.2, s.2.set x.2.val (s.1 % pw x.2))
def sF (k : Int) (pre : List BkE) : Int × List Int := pre.foldl stepS (k, [0, 0, 0, 0, 0])
theorem sF_snoc (k : Int) (pre : List BkE) (x : BkE) : sF k (pre ++ [x]) = stepS (sF k pre) x := by simp [sF, List.foldl_append]
def partsC (l : List Int) : List Value := l.map fun x => .int .i64 x
def SOk (s : Int × List Int) : Prop := (-9223372036854775808 ≤ s.1 ∧ s.1 ≤ 9223372036854775807) ∧ s.2.length = 5
theorem fin5 (d : OrdD) : d = 0 ∨ d = 1 ∨ d = 2 ∨ d = 3 ∨ d = 4 := by revert d; decide
theorem step_ok {s : Int × List Int} (h : SOk s) (x : BkE) : SOk (stepS s x) := by
  obtain ⟨⟨h1, h2⟩, h3⟩ := h
  refine ⟨?_, by simp [stepS, h3]⟩
  obtain ⟨i, d⟩ := x
  rcases fin5 d with rfl | rfl | rfl | rfl | rfl <;> simp only [stepS, pw0, pw1, pw2, pw3, pw4] <;> omega
theorem sF_ok {k : Int} (h : -9223372036854775808 ≤ k ∧ k ≤ 9223372036854775807) (pre : List BkE) : SOk (sF k pre) := by
  have : ∀ (pre : List BkE) (s : Int × List Int), SOk s → SOk (pre.foldl stepS s) := fun pre => by
    induction pre with
    | nil => exact fun s h => h
    | cons x t ih => exact fun s h => ih _ (step_ok h x)
  exact this pre _ ⟨h, rfl⟩

end Go.Proofs.YtoimpkhgdpkhkaaDoor
