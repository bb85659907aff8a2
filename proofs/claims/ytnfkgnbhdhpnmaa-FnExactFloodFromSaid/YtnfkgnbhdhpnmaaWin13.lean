/-
  A queue in a window of a block, put onto and taken from.
-/
import Derived.Test.YtnfkgnbhdhpnmaaClone13
import Derived.ArgAppend
namespace Go.Proofs.Ytnfkgnbhdhpnmaa
open Go.ChangeShapes Go.WideShapes Go.ChangeAt Go.RowKit

set_option maxRecDepth 100000
set_option linter.unusedVariables false
/-- A queue: a window of a block of the call's own, with room behind it. -/
structure WinO (w : World) (lo B o cap : Nat) (q : List Nat) : Prop where
  low : lo ≤ B
  blk : ∃ cur : Array Value, w.heap[B]? = some (.cells cur 3 (0, 0)) ∧ o + cap ≤ cur.size
  len : q.length ≤ cap
  cel : ∀ (j y : Nat), q[j]? = some y → w.cell? ⟨B, o + j, none⟩ = some (.int .i64 (y : Int))
theorem WinO.lt {w : World} {lo B o cap : Nat} {q : List Nat} (h : WinO w lo B o cap q) : B < w.heap.size := by
  obtain ⟨cur, h1, _⟩ := h.blk
  exact (Array.getElem?_eq_some_iff.1 h1).1
theorem WinO.but {w w' : World} {lo B o cap lo' hi' : Nat} {q : List Nat} (h : WinO w lo B o cap q) (k : But lo' hi' w w') (ho : B < lo' ∨ hi' ≤ B) : WinO w' lo B o cap q := by
  refine ⟨h.low, ?_, h.len, fun j y hy => k.cell (h.cel j y hy) ho⟩
  obtain ⟨cur, h1, h2⟩ := h.blk
  exact ⟨cur, (k.block B h.lt ho).trans h1, h2⟩
theorem WinO.kept {w w' : World} {lo B o cap : Nat} {q : List Nat} (h : WinO w lo B o cap q) (k : Kept w w') : WinO w' lo B o cap q := h.but k (by omega)
theorem WinO.one (w : World) (lo y : Nat) (h : lo ≤ w.heap.size) : WinO (w.alloc (.cells #[.int .i64 (y : Int)] 3)) lo w.heap.size 0 1 [y] := by
  refine ⟨h, ⟨_, heap_alloc_new w _, by simp⟩, by simp, fun j z hz => ?_⟩
  match j, hz with
  | 0, hz => cases hz; exact (Loc.new w [.int .i64 (y : Int)] 3).cell 0 rfl
/-- The first one taken out. -/
theorem WinO.tail {w : World} {lo B o cap x : Nat} {q : List Nat} (h : WinO w lo B o cap (x :: q)) : WinO w lo B (if cap = 1 then o else o + 1) (cap - 1) q := by
  have hl := h.len
  simp only [List.length_cons] at hl
  refine ⟨h.low, ?_, by omega, fun j y hy => ?_⟩
  · obtain ⟨cur, h1, h2⟩ := h.blk
    refine ⟨cur, h1, ?_⟩
    split <;> omega
  · have hq : j < q.length := (List.getElem?_eq_some_iff.1 hy).1
    rw [if_neg (by omega), show o + 1 + j = o + (j + 1) by omega]
    exact h.cel (j + 1) y (by simpa using hy)
theorem WinO.spare {w : World} {lo B o cap : Nat} {q : List Nat} (h : WinO w lo B o cap q) {j : Nat} (hj : j < cap) : (w.cell? ⟨B, o + j, none⟩).isSome = true ∧ w.frozen? ⟨B, o + j, none⟩ = false := by
  obtain ⟨cur, h1, h2⟩ := h.blk
  refine ⟨?_, by simp [World.frozen?, h1]⟩
  rw [cell_of_row w B (o + j) cur 3 (0, 0) h1, Array.getElem?_eq_getElem (by omega)]
  rfl
theorem WinO.put {w : World} {lo B o cap : Nat} {q : List Nat} (h : WinO w lo B o cap q) (y : Nat) (hr : q.length < cap) : WinO (w.setCell ⟨B, o + q.length, none⟩ (.int .i64 (y : Int))) lo B o cap (q ++ [y]) := by
  obtain ⟨cur, h1, h2⟩ := h.blk
  have hb : (w.setCell ⟨B, o + q.length, none⟩ (.int .i64 (y : Int))).heap[B]? = some (.cells (cur.setIfInBounds (o + q.length) (.int .i64 (y : Int))) 3 (0, 0)) := by
    simp only [World.setCell, Array.getElem?_modify, if_true, h1]
    rfl
  refine ⟨h.low, ⟨_, hb, by simpa using h2⟩, by simp; omega, fun j z hz => ?_⟩
  rw [cell_of_row _ B (o + j) _ 3 (0, 0) hb, Array.getElem?_setIfInBounds]
  by_cases hj : j < q.length
  · rw [List.getElem?_append_left hj] at hz
    rw [if_neg (by omega)]
    have := h.cel j z hz
    rw [cell_of_row w B (o + j) cur 3 (0, 0) h1] at this
    exact this
  · rw [List.getElem?_append_right (by omega)] at hz
    have h3 := (List.getElem?_eq_some_iff.1 hz).1
    simp at h3
    have e0 : j - q.length = 0 := by omega
    rw [e0] at hz
    cases hz
    have : j = q.length := by omega
    subst this
    rw [if_pos rfl, if_pos (by omega)]
def qC (q : List Nat) : List Value := q.map fun (y : Nat) => .int .i64 (y : Int)
theorem wpList_append_win {w : World} {ops : Array Oper} {rest : List Oper} {o : Oper} {a : Act} {Q : Exit → Act → World → Prop} (hgd : o.guard = none) (s x : Operand)
    (ho : o.op = Op.call { callee := Callee.builtin Builtin.append, args := #[s, x], argTypes := #[23, 23] })
    (lo B off cap y X : Nat) (q : List Nat) (hs : a.eval s = .slice (some ⟨B, off, none⟩) q.length cap) (hw : WinO w lo B off cap q) (hlo : lo ≤ w.heap.size)
    (hx : a.eval x = .slice (some ⟨X, 0, none⟩) 1 1) (hX : w.cell? ⟨X, 0, none⟩ = some (.int .i64 (y : Int))) (hq : q.length ≤ 1000000)
    (h : ∀ B' off' cap' w', WinO w' lo B' off' cap' (q ++ [y]) → But B (B + 1) w w' → (B' = B ∨ w.heap.size ≤ B') → wpList Try.prog ops Q rest (a.put o.dst (.slice (some ⟨B', off', none⟩) (q.length + 1) cap')) w') : wpList Try.prog ops Q (o :: rest) a w := by
  obtain ⟨i0, hi0, hz0, hz1, hz2⟩ := info_parts info_num
  have hnews : ∀ (j : Nat) u, [Value.int .i64 (y : Int)][j]? = some u → w.cell? ((⟨X, 0, none⟩ : Addr).add j) = some u := fun j u hu => by
    match j, hu with
    | 0, hu => cases hu; exact hX
  have hold : ∀ j u, (qC q)[j]? = some u → w.cell? ⟨B, off + j, none⟩ = some u := fun j u hu => by
    unfold qC at hu
    rw [List.getElem?_map] at hu
    obtain ⟨z, hz, rfl⟩ := Option.map_eq_some_iff.1 hu
    exact hw.cel j z hz
  refine wpList_append_arg w hgd s x 23 ho 3 i0 (.int .i64 0) 1 8 Try.underlying23 hi0 hz0 hz1 hz2 rfl (by decide) B off q.length cap (qC q) hs (by simp [qC]) hold ⟨X, 0, none⟩ 1 1 [.int .i64 (y : Int)] hx rfl hnews (by simp [Value.oneCell']) ?_ ?_ ?_ ?_ ?_
  · intro hr j hj
    have hj0 : j = 0 := by simpa using hj
    subst hj0
    have := hw.spare (j := q.length) (by omega)
    simpa using this
  · unfold maxLen; omega
  · omega
  · intro hr
    have h1 := h B off cap (w.setCell ⟨B, off + q.length, none⟩ (.int .i64 (y : Int))) (hw.put y (by omega)) ((But.refl _ _ w).setCell (p := ⟨B, off + q.length, none⟩) (Nat.le_refl _) (Nat.lt_succ_self _) _) (.inl rfl)
    rw [Nat.mul_one]
    exact h1
  · intro hr v' w' hown hg
    have hb : But B (B + 1) w w' := But.of ((But.refl 0 0 w).grown hg (fun k hk => by cases hk))
    rcases hown.2 with ⟨_, h0⟩ | ⟨g, cap', cur, rfl, hbs, hgg, hnc, hcm, hcs, htake⟩
    · omega
    · refine h g 0 cap' w' ⟨by omega, ⟨cur, hgg, by omega⟩, by simp; omega, fun j z hz => ?_⟩ hb (.inr hbs)
      have hc : (qC q ++ [.int .i64 (y : Int)])[j]? = some (.int .i64 (z : Int)) := by
        have e : qC q ++ [.int .i64 (y : Int)] = qC (q ++ [y]) := by simp [qC]
        rw [e]
        unfold qC
        rw [List.getElem?_map, hz]
        rfl
      have := own_cell hown hc
      obtain ⟨g', c', e, _, hc2, _⟩ := this
      cases e
      simpa using hc2

end Go.Proofs.Ytnfkgnbhdhpnmaa
