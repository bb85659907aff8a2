/-
  A row that is being sorted, in memory; free of the program.
-/
import Derived.Test.YtaofilinejanjaaSymP18
import Derived.Test.YtaofilinejanjaaApp18
import Derived.BigRegion
namespace Go.Proofs.Ytaofilinejanjaa
open Go.ChangeShapes Go.WideShapes Go.ChangeAt Go.RowKit

set_option maxRecDepth 100000
set_option linter.unusedVariables false

/-- A row that is being sorted lies in a block of its own; all others are as they were. -/
structure Sw (w0 : World) (g n cap lo hi : Nat) (d : List Int) (W : World) : Prop where
  own : NumO W lo hi (.slice (some ⟨g, 0, none⟩) n cap) d
  len : d.length = n
  but : But g (g + 1) w0 W
  rng : ∀ x ∈ d, 0 ≤ x ∧ x < (n : Int)
variable {w0 W : World} {g n cap lo hi : Nat}
theorem Sw.kept {d : List Int} {W' : World} (h : Sw w0 g n cap lo hi d W) (k : Kept W W') : Sw w0 g n cap lo hi d W' := ⟨h.own.kept k, h.len, h.but.transK k, h.rng⟩
theorem Sw.as {d d' : List Int} (h : Sw w0 g n cap lo hi d W) (e : d = d') : Sw w0 g n cap lo hi d' W := e ▸ h
theorem Sw.cell {d : List Int} (h : Sw w0 g n cap lo hi d W) {i : Nat} {x : Int} (hx : d[i]? = some x) : W.cell? ⟨g, i, none⟩ = some (.int .i64 x) ∧ W.frozen? ⟨g, i, none⟩ = false ∧ (i : Int) < (n : Int) := by
  refine ⟨(h.own.cells hx).1, (h.own.cells hx).2 i, ?_⟩
  have := (List.getElem?_eq_some_iff.1 hx).1
  have := h.len
  omega
theorem Sw.up {U M V : List Int} {x y : Int} (h : Sw w0 g n cap lo hi (U ++ x :: (M ++ y :: V)) W) :
    (W.setCell ⟨g, U.length, none⟩ (.int .i64 y)).cell? ⟨g, U.length + 1 + M.length, none⟩ = some (.int .i64 y) ∧ Sw w0 g n cap lo hi (U ++ y :: (M ++ x :: V)) ((W.setCell ⟨g, U.length, none⟩ (.int .i64 y)).setCell ⟨g, U.length + 1 + M.length, none⟩ (.int .i64 x)) := by
  have h1 := h.own.set h.len.symm (at_first U (M ++ y :: V) x) y
  rw [set_mid] at h1
  have h2 := h1.set (by have := h.len; simpa using this.symm) (at_second U M V y y) x
  have e := swap_up U M V x y
  rw [set_mid] at e
  rw [e] at h2
  refine ⟨(h1.cells (at_second U M V y y)).1, h2, by have := h.len; simpa using this, ?_, fun z hz => h.rng z ((swap_perm U M V x y).mem_iff.1 hz)⟩
  exact (h.but.setCell (p := ⟨g, U.length, none⟩) (Nat.le_refl _) (by simp) _).setCell (p := ⟨g, U.length + 1 + M.length, none⟩) (Nat.le_refl _) (by simp) _
theorem Sw.down {U M V : List Int} {x y : Int} (h : Sw w0 g n cap lo hi (U ++ x :: (M ++ y :: V)) W) :
    (W.setCell ⟨g, U.length + 1 + M.length, none⟩ (.int .i64 x)).cell? ⟨g, U.length, none⟩ = some (.int .i64 x) ∧ Sw w0 g n cap lo hi (U ++ y :: (M ++ x :: V)) ((W.setCell ⟨g, U.length + 1 + M.length, none⟩ (.int .i64 x)).setCell ⟨g, U.length, none⟩ (.int .i64 y)) := by
  have h1 := h.own.set h.len.symm (at_second U M V x y) x
  have e1 : (U ++ x :: (M ++ y :: V)).set (U.length + 1 + M.length) x = U ++ x :: (M ++ x :: V) := by
    have e : U ++ x :: (M ++ y :: V) = (U ++ x :: M) ++ y :: V := by simp
    rw [e, show U.length + 1 + M.length = (U ++ x :: M).length by simp; omega, set_mid]
    simp
  rw [e1] at h1
  have h2 := h1.set (by have := h.len; simpa using this.symm) (at_first U (M ++ x :: V) x) y
  rw [set_mid] at h2
  refine ⟨(h1.cells (at_first U (M ++ x :: V) x)).1, h2, by have := h.len; simpa using this, ?_, fun z hz => h.rng z ((swap_perm U M V x y).mem_iff.1 hz)⟩
  exact (h.but.setCell (p := ⟨g, U.length + 1 + M.length, none⟩) (Nat.le_refl _) (by simp) _).setCell (p := ⟨g, U.length, none⟩) (Nat.le_refl _) (by simp) _

end Go.Proofs.Ytaofilinejanjaa
