/-
  append of presses; what a drawing of presses holds.
-/
import Derived.Test.YthkfpbknfjapaaaApp17
import Derived.Test.YthkfpbknfjapaaaPress
import Derived.Test.YthkfpbknfjapaaaCur
import Derived.Test.YthkfpbknfjapaaaQuiet
namespace Go.Proofs.Ythkfpbknfjapaaa
open Go.ChangeShapes Go.WideShapes Go.ChangeAt Go.RowKit

set_option maxRecDepth 100000
set_option linter.unusedVariables false
theorem info_pressA : (Try.prog.info? 82).map (fun i => (i.zero, i.size, i.bytes)) = some (some (.agg #[.int .i64 0, .int .i64 0, .bool false]), 3, 24) := by kernel_rfl
theorem ones_press (l : List PressD) : ∀ u ∈ l.flatMap pressC, u.oneCell' = true := fun u hu => by
  obtain ⟨p, _, h⟩ := List.mem_flatMap.1 hu
  simp [pressC] at h
  rcases h with rfl | rfl | rfl <;> rfl
theorem src_press {w : World} {ao : Option Addr} {n cap : Nat} {ps : List PressD} (h : PressAt w (.slice ao n cap) ps) : ∀ j u, (ps.flatMap pressC)[j]? = some u → ∃ ad, ao = some ad ∧ w.cell? (ad.add j) = some u := fun j u hj => by
  obtain ⟨ao', cap', e, hc⟩ := h
  cases e
  obtain ⟨b, o, e2, h2⟩ := hc j u hj
  exact ⟨⟨b, o, none⟩, e2, by rw [Go.WideShapes.add_plain]; exact h2⟩
theorem one_press {w : World} {b : Nat} {p : PressD} (h : Loc w b (pressC p)) : PressAt w (.slice (some ⟨b, 0, none⟩) 1 1) [p] :=
  ⟨some ⟨b, 0, none⟩, 1, rfl, fun j x hj => ⟨b, 0, rfl, by rw [Nat.zero_add]; exact h.cell j (by simpa using hj)⟩⟩
theorem nil_press (w : World) (lo hi : Nat) : PressO w lo hi (.slice none 0 0) [] := ⟨World.ownsRow_nil _ _ _ _, fun g hg => by simp [Value.ownBlock] at hg⟩
/-- append of a list onto a row of its own. -/
theorem app_press {w : World} {ops : Array Oper} {rest : List Oper} {o : Oper} {a : Act} {Q : Exit → Act → World → Prop} (hgd : o.guard = none) (s x : Operand)
    (ho : o.op = .call { callee := .builtin .append, args := #[s, x], argTypes := #[24, 24] }) {lo hi : Nat} {v : Value} {ps : List PressD} (hs : a.eval s = v) (hown : PressO w lo hi v ps)
    {ao : Option Addr} {m c : Nat} {qs : List PressD} (hx : a.eval x = .slice ao m c) (hq : PressAt w (.slice ao m c) qs) (hm : m = qs.length) (hb : ps.length + qs.length ≤ 100000000) (hlo : lo ≤ w.heap.size)
    (h : ∀ v' w', PressO w' lo w'.heap.size v' (ps ++ qs) → But lo hi w w' → wpList Try.prog ops Q rest (a.put o.dst v') w') : wpList Try.prog ops Q (o :: rest) a w := by
  subst hm
  obtain ⟨i0, hi0, hz0, hz1, hz2⟩ := info_parts info_pressA
  refine wpList_append_any w hgd s x 24 ho lo 82 i0 (.agg #[.int .i64 0, .int .i64 0, .bool false]) 3 24 Try.underlying24 hi0 hz0 hz1 hz2 rfl (by decide) v ps.length (ps.flatMap pressC) hs hown.1 ao qs.length c (qs.flatMap pressC) hx (by rw [flat_len 3 pressC pressC_len] <;> omega) (src_press hq) (ones_press qs) (by unfold maxLen; omega) (by omega) hlo ?_
  intro v' w' h1 h2
  refine h v' w' ?_ ?_
  · unfold PressO
    rw [List.length_append, List.flatMap_append]
    exact RowO.top h1
  · refine (But.refl _ _ w).grown h2 (fun g hg => .inr ?_)
    have := hown.1.lt g hg
    exact ⟨this.1, hown.2 g hg⟩

theorem nat_of (r : Int) (n : Nat) (h0 : 0 ≤ r) (h1 : r < n) : ∃ k : Nat, r = k ∧ k < n := ⟨r.toNat, by omega, by omega⟩
theorem listed_new (w : World) (xs : List Int) (t : TypeId) : Listed (w.alloc (.cells (xs.map fun z => Value.int .i64 z).toArray t)) w.heap.size xs := by
  intro i hi
  have h : (w.alloc (.cells (xs.map fun z => Value.int .i64 z).toArray t)).heap[w.heap.size]? = some (.cells (xs.map fun z => Value.int .i64 z).toArray t) := heap_alloc_new w _
  unfold World.cell?
  rw [h]
  show (xs.map fun z => Value.int .i64 z).toArray[i]? = _
  rw [List.getElem?_toArray, List.getElem?_map, List.getD_eq_getElem?_getD, List.getElem?_eq_getElem hi]
  rfl
/-- What the drawing of one list of presses holds. -/
structure DrP (w wr : World) (b : Nat) (K : Int) (x : Value) (l : List PressD) : Prop where
  cur : CurOk wr b K
  rx : PressO wr w.heap.size wr.heap.size x l
  but : But b (b + 1) w wr
  lo : b < w.heap.size
theorem DrP.sz {w wr : World} {b : Nat} {K : Int} {x : Value} {l : List PressD} (h : DrP w wr b K x l) : w.heap.size ≤ wr.heap.size := h.but.size
theorem DrP.le {w wr : World} {b : Nat} {K K' : Int} {x : Value} {l : List PressD} (h : DrP w wr b K x l) (hk : K ≤ K') : DrP w wr b K' x l := ⟨h.cur.le hk, h.rx, h.but, h.lo⟩
theorem DrP.draw {w wr w' : World} {b : Nat} {K K' : Int} {x : Value} {l : List PressD} (h : DrP w wr b K x l) (g : But b (b + 1) wr w') (hC : CurOk w' b K') : DrP w w' b K' x l := by
  have := h.lo
  exact ⟨hC, (h.rx.but g (.inr (by omega))).low, h.but.trans g, h.lo⟩
theorem DrP.alloc {w wr : World} {b : Nat} {K : Int} {x : Value} {l : List PressD} (h : DrP w wr b K x l) (o : Obj) : DrP w (wr.alloc o) b K x l :=
  ⟨h.cur.alloc o, (h.rx.kept ((But.refl _ _ wr).alloc o)).low, h.but.alloc o, h.lo⟩
theorem DrP.grew {w wr w' : World} {b hi : Nat} {K : Int} {x v' : Value} {l l' : List PressD} (h : DrP w wr b K x l) (o1 : PressO w' w.heap.size w'.heap.size v' l') (b1 : But w.heap.size hi wr w') : DrP w w' b K v' l' :=
  ⟨h.cur.but b1 h.lo, o1, ⟨b1.os.trans h.but.os, b1.out.trans h.but.out, Nat.le_trans h.but.size b1.size, fun i hi' hb => (b1.block i (Nat.lt_of_lt_of_le hi' h.but.size) (.inl hi')).trans (h.but.block i hi' hb)⟩, h.lo⟩

end Go.Proofs.Ythkfpbknfjapaaa
