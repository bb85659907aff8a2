/-
  Two lists that are drawn.
-/
import Derived.Test.YtaofilinejanjaaDoorDrawW18
import Derived.Test.YtaofilinejanjaaDoorApp18
import Derived.Test.YtaofilinejanjaaDoorShI18
namespace Go.Proofs.YtaofilinejanjaaDoor
open Go.ChangeShapes Go.WideShapes Go.ChangeAt Go.RowKit

set_option maxRecDepth 100000
set_option linter.unusedVariables false

/-- What the drawing of a row of boxes holds: the cursor in block b, the two lists in rows of their own. -/
structure DrS (w wr : World) (b : Nat) (K : Int) (x y : Value) (la lb : List Int) : Prop where
  cur : CurOk wr b K
  rx : NumO wr (b + 1) wr.heap.size x la
  ry : NumO wr (b + 1) wr.heap.size y lb
  ap : Ap x y
  kept : Kept w wr
  lo : w.heap.size ≤ b
theorem DrS.lt {w wr : World} {b : Nat} {K : Int} {x y : Value} {la lb : List Int} (h : DrS w wr b K x y la lb) : b < wr.heap.size := h.cur.lt
theorem DrS.le {w wr : World} {b : Nat} {K K' : Int} {x y : Value} {la lb : List Int} (h : DrS w wr b K x y la lb) (hk : K ≤ K') : DrS w wr b K' x y la lb := ⟨h.cur.le hk, h.rx, h.ry, h.ap, h.kept, h.lo⟩
theorem DrS.draw {w wr w' : World} {b : Nat} {K K' : Int} {x y : Value} {la lb : List Int} (h : DrS w wr b K x y la lb) (g : But b (b + 1) wr w') (hC : CurOk w' b K') : DrS w w' b K' x y la lb :=
  ⟨hC, (h.rx.but g (.inr (Nat.le_refl _))).low, (h.ry.but g (.inr (Nat.le_refl _))).low, h.ap, But.onto h.kept g h.lo, h.lo⟩
theorem DrS.alloc {w wr : World} {b : Nat} {K : Int} {x y : Value} {la lb : List Int} (h : DrS w wr b K x y la lb) (o : Obj) : DrS w (wr.alloc o) b K x y la lb :=
  ⟨h.cur.alloc o, (h.rx.kept ((But.refl _ _ wr).alloc o)).low, (h.ry.kept ((But.refl _ _ wr).alloc o)).low, h.ap, h.kept.alloc o, h.lo⟩
theorem DrS.grewx {w wr w' : World} {b : Nat} {K : Int} {x y v' : Value} {la lb la' : List Int} (h : DrS w wr b K x y la lb) (o1 : NumO w' (b + 1) w'.heap.size v' la') (b1 : But (blo x) (bhi x) wr w') (h4 : v'.ownBlock = x.ownBlock ∨ v'.ownBlock = some wr.heap.size) : DrS w w' b K v' y la' lb := by
  have b2 := b1.inner h.rx
  have hl := h.lo
  exact ⟨h.cur.but b2 (by omega), o1, (RowO.apart h.ry b1 h.ap.symm).low, (ap1_num h.ry h.ap.symm h4).symm, But.onto h.kept b2 (by omega), h.lo⟩
theorem DrS.grewy {w wr w' : World} {b : Nat} {K : Int} {x y v' : Value} {la lb lb' : List Int} (h : DrS w wr b K x y la lb) (o1 : NumO w' (b + 1) w'.heap.size v' lb') (b1 : But (blo y) (bhi y) wr w') (h4 : v'.ownBlock = y.ownBlock ∨ v'.ownBlock = some wr.heap.size) : DrS w w' b K x v' la lb' := by
  have b2 := b1.inner h.ry
  have hl := h.lo
  exact ⟨h.cur.but b2 (by omega), (RowO.apart h.rx b1 h.ap).low, o1, ap1_num h.rx h.ap h4, But.onto h.kept b2 (by omega), h.lo⟩
theorem DrS.sety {w wr : World} {b g n cap : Nat} {K : Int} {x : Value} {la lb : List Int} (h : DrS w wr b K x (.slice (some ⟨g, 0, none⟩) n cap) la lb) (hn : n = lb.length) {i : Nat} {p : Int} (hp : lb[i]? = some p) (q : Int) : DrS w (wr.setCell ⟨g, i, none⟩ (.int .i64 q)) b K x (.slice (some ⟨g, 0, none⟩) n cap) la (lb.set i q) := by
  have b1 := but_set wr g n cap i (.int .i64 q)
  have b2 := b1.inner h.ry
  have hl := h.lo
  exact ⟨h.cur.but b2 (by omega), (RowO.apart h.rx b1 h.ap).low, (h.ry.set hn hp q).low, h.ap, But.onto h.kept b2 (by omega), h.lo⟩

end Go.Proofs.YtaofilinejanjaaDoor
