/-
  What is changed by a heap; which timer fires ahead.
-/
import Derived.Test.YthihgjcnjgpegaaHeap
import Derived.Test.YthihgjcnjgpegaaApp
import Derived.Test.YthihgjcnjgpegaaGood0
import Derived.Maps.AppendAt
namespace Go.Proofs.Ythihgjcnjgpegaa
open Go.ChangeShapes Go.WideShapes Go.ChangeAt Go.RowKit

/-- All blocks are as they were but B and the one behind v. -/
structure Touch (B : Nat) (v : Value) (w w' : World) : Prop where
  os : w'.os = w.os
  out : w'.output = w.output
  size : w.heap.size ≤ w'.heap.size
  block : ∀ b, b < w.heap.size → b ≠ B → v.ownBlock ≠ some b → w'.heap[b]? = w.heap[b]?
section
variable {B lo hi : Nat} {v v' : Value} {u w w' w'' : World} {e : TypeId} {size n : Nat} {xs : List Value}
theorem Touch.of (h : Kept w w') : Touch B v w w' := ⟨h.os, h.out, h.size, fun b hb _ _ => h.block b hb (by omega)⟩
theorem Touch.refl : Touch B v w w := Touch.of (But.refl _ _ w)
theorem Touch.trans (h : Touch B v w w') (hv : v'.ownBlock = v.ownBlock ∨ ∀ g, v'.ownBlock = some g → w.heap.size ≤ g) (k : Touch B v' w' w'') : Touch B v w w'' :=
  ⟨k.os.trans h.os, k.out.trans h.out, Nat.le_trans h.size k.size, fun b hb hB hb' => by
    rw [k.block b (Nat.lt_of_lt_of_le hb h.size) hB (fun e => by
      rcases hv with hv | hv
      · rw [hv] at e; exact hb' e
      · have := hv b e; omega), h.block b hb hB hb']⟩
theorem Touch.kept (h : Touch B v w w') (k : Kept w' w'') : Touch B v w w'' := h.trans (.inl rfl) (Touch.of k)
theorem Touch.setB (h : Touch B v w w') (j : Nat) (x : Value) : Touch B v w (w'.setCell ⟨B, j, none⟩ x) := by
  have k : But B (B + 1) w' (w'.setCell ⟨B, j, none⟩ x) := (But.refl _ _ _).setCell (by simp) (by simp) _
  exact ⟨k.os.trans h.os, k.out.trans h.out, Nat.le_trans h.size k.size, fun b hb hB hb' => (k.block b (Nat.lt_of_lt_of_le hb h.size) (by omega)).trans (h.block b hb hB hb')⟩
theorem Touch.row (h : Touch B v w w') {g : Nat} (hg : v.ownBlock = some g ∨ w.heap.size ≤ g) (k : But g (g + 1) w' w'') : Touch B v w w'' :=
  ⟨k.os.trans h.os, k.out.trans h.out, Nat.le_trans h.size k.size, fun b hb hB hb' => by
    have : b ≠ g := fun e => by
      rcases hg with hg | hg
      · rw [e] at hb'; exact hb' hg
      · omega
    exact (k.block b (Nat.lt_of_lt_of_le hb h.size) (by omega)).trans (h.block b hb hB hb')⟩
theorem Touch.grown (h : Touch B v w w') (hv : v'.ownBlock = v.ownBlock ∨ ∀ g, v'.ownBlock = some g → w.heap.size ≤ g) (g : w'.grownBy w'' v'.ownBlock) : Touch B v w w'' :=
  ⟨g.os.trans h.os, g.output.trans h.out, Nat.le_trans h.size g.size, fun b hb hB hb' => by
    rw [g.block b (Nat.lt_of_lt_of_le hb h.size) (fun e => by
      rcases hv with hv | hv
      · rw [hv] at e; exact hb' e.symm
      · have := hv b e.symm; omega), h.block b hb hB hb']⟩
/-- What is older is kept where B and the row are new. -/
theorem Touch.new (h : Touch B v w w') (hB : u.heap.size ≤ B) (hv : ∀ g, v.ownBlock = some g → u.heap.size ≤ g) (k : Kept u w) : Kept u w' :=
  ⟨h.os.trans k.os, h.out.trans k.out, Nat.le_trans k.size h.size, fun b hb _ => by
    rw [h.block b (Nat.lt_of_lt_of_le hb k.size) (by omega) (fun e => by have := hv b e; omega)]
    exact k.block b hb (by omega)⟩
theorem RowO.touch (h : RowO w lo hi e size v' n xs) (k : Touch B v w w') (hB : B < lo) (ha : Ap v' v) : RowO w' lo hi e size v' n xs := by
  refine ⟨⟨h.1.1, ?_⟩, h.2⟩
  rcases h.1.2 with h0 | ⟨g, cap, cur, rfl, h1, h2, h3⟩
  · exact .inl h0
  · exact .inr ⟨g, cap, cur, rfl, h1, (k.block g (Array.getElem?_eq_some_iff.1 h2).1 (by omega) (ha g rfl)).trans h2, h3⟩
theorem Loc.touch {b : Nat} {cs : List Value} (h : Loc w b cs) (k : Touch B v w w') (hb : b ≠ B) (hv : v.ownBlock ≠ some b) : Loc w' b cs := by
  obtain ⟨t, e⟩ := h
  exact ⟨t, (k.block b (Array.getElem?_eq_some_iff.1 e).1 hb hv).trans e⟩
end

/-- append onto a row of its own, as one step of a region that draws, with where it lies then. -/
theorem step_append_at {P : Program} {ops : Array Oper} {o : Oper} {a : Act} {w : World} {K : Act → World → Prop} {Q : Exit → Act → World → Prop} {E : Prop}
    (hg : o.guard = none) (s x : Operand) (t : TypeId) (hop : o.op = Op.call { callee := Callee.builtin Builtin.append, args := #[s, x], argTypes := #[t, t] })
    (base : Nat) (e : TypeId) (i : TypeInfo) (z : Value) (size bytes : Nat) (ht : P.underlying t = some (.slice e)) (hi : P.info? e = some i) (hz : i.zero = some z)
    (hsize : i.size = size) (hby : i.bytes = bytes) (hzs : z.cells.size = size) (hsz : 0 < size)
    (v : Value) (n : Nat) (xs : List Value) (hs : a.eval s = v) (hown : w.ownsRow base e size v n xs)
    (ad : Addr) (m c : Nat) (news : List Value) (hx : a.eval x = .slice (some ad) m c) (hl : news.length = m * size) (hnews : ∀ j u, news[j]? = some u → w.cell? (ad.add j) = some u) (h1 : ∀ u ∈ news, u.oneCell' = true)
    (h63 : n + m ≤ maxLen) (hbytes : (n + m) * bytes ≤ 140737488355328) (hbase : base ≤ w.heap.size)
    (h : ∀ v' w', w'.ownsRow base e size v' (n + m) (xs ++ news) → w.grownBy w' v.ownBlock → (v'.ownBlock = v.ownBlock ∨ v'.ownBlock = some w.heap.size) → K (a.put o.dst v') w') :
    if Region.wanted o (yielded ops a.tmps) = true then Oper.wp P o a w K Q else E := by
  have hw : Region.wanted o (yielded ops a.tmps) = true := by simp [Region.wanted, hg]
  rw [if_pos hw]
  obtain ⟨v', w', hr, h2, h3, -, h5⟩ := run_append_own_at (P := P) w base t o.type e i z size bytes ht hi hz hsize hby hzs hsz v n xs hown ad m c news hl hnews h1 h63 hbytes hbase
  unfold Oper.wp execOp
  simp only [hop, resolve, invoke, builtin, Sem.run_bind, Sem.run_pure, Result.andThen_ok, List.map_toArray, List.map_cons, List.map_nil, hs, hx, hr]
  exact h v' w' h2 h3 h5
/-- Cuts: what a region leaves, in few letters. -/
theorem wp_cut0 {P : Program} {C : Code} {Q : Exit → Act → World → Prop} {a : Act} {w : World} {A : Act} (F : World → Prop)
    (h : C.wp P (fun x a' w' => match x with | .normal => a' = A ∧ F w' | _ => False) a w) (hq : ∀ w', F w' → Q .normal A w') : C.wp P Q a w :=
  wp_mono h fun e a' w' hx => by
    cases e with
    | normal => obtain ⟨rfl, hF⟩ := hx; exact hq w' hF
    | _ => exact hx.elim
theorem wp_cut1 {P : Program} {C : Code} {Q : Exit → Act → World → Prop} {a : Act} {w : World} {A : Nat → Act} (F : Nat → World → Prop)
    (h : C.wp P (fun x a' w' => match x with | .normal => ∃ g, a' = A g ∧ F g w' | _ => False) a w) (hq : ∀ g w', F g w' → Q .normal (A g) w') : C.wp P Q a w :=
  wp_mono h fun e a' w' hx => by
    cases e with
    | normal => obtain ⟨g, rfl, hF⟩ := hx; exact hq g w' hF
    | _ => exact hx.elim
theorem wp_cut2 {P : Program} {C : Code} {Q : Exit → Act → World → Prop} {a : Act} {w : World} {A : Option Addr → Nat → Act} (F : Option Addr → Nat → World → Prop)
    (h : C.wp P (fun x a' w' => match x with | .normal => ∃ ao cap, a' = A ao cap ∧ F ao cap w' | _ => False) a w) (hq : ∀ ao cap w', F ao cap w' → Q .normal (A ao cap) w') : C.wp P Q a w :=
  wp_mono h fun e a' w' hx => by
    cases e with
    | normal => obtain ⟨ao, cap, rfl, hF⟩ := hx; exact hq ao cap w' hF
    | _ => exact hx.elim

set_option maxRecDepth 100000
set_option maxHeartbeats 1000000 in
theorem firesAhead (a b c d a' b' c' d' : Int) (w : World) : Calls Try.prog 38 #[.agg #[.int .i64 a, .int .i64 b, .int .i64 c, .int .i64 d], .agg #[.int .i64 a', .int .i64 b', .int .i64 c', .int .i64 d']] w fun e w' => e = .returned (.bool (aheadB (a, b, c, d) (a', b', c', d'))) ∧ Kept w w' := by
  go_enter Try.func38, Try.ntmps38
  go_wp2
  all_goals
    go_ret
    refine ⟨ret_bool ?_, ?_⟩
    · rw [Bool.eq_iff_iff]
      simp [aheadB] at * <;> omega
    · repeat (first | with_reducible exact But.refl _ _ _ | with_reducible apply But.drewN | with_reducible apply But.drew | with_reducible apply But.alloc)

end Go.Proofs.Ythihgjcnjgpegaa
