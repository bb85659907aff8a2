/-
  What a row that grows leaves alone.
-/
import Derived.Test.YtklgjhemcofhhaaApp22
import Derived.Lib.AppendStr
namespace Go.Proofs.Ytklgjhemcofhhaa
open Go.ChangeShapes Go.WideShapes Go.ChangeAt Go.RowKit

set_option maxRecDepth 100000
set_option linter.unusedVariables false
set_option linter.unusedSimpArgs false

/-- A value's block is the old one or a new one. -/
def Ow (w : World) (v v' : Value) : Prop := ∀ g, v'.ownBlock = some g → v.ownBlock = some g ∨ w.heap.size ≤ g
abbrev ButV (v : Value) (w w' : World) : Prop := But (blo v) (bhi v) w w'
theorem butv_block {v : Value} {w w' : World} (h : ButV v w w') {b : Nat} (hb : b < w.heap.size) (hv : v.ownBlock ≠ some b) : w'.heap[b]? = w.heap[b]? := by
  refine h.block b hb ?_
  unfold blo bhi
  cases e : v.ownBlock with
  | none => right; simp
  | some g =>
    have : g ≠ b := fun e2 => hv (by rw [e, e2])
    simp only [Option.getD_some]
    omega
theorem butv_of {v : Value} {w w' : World} (h1 : w'.os = w.os) (h2 : w'.output = w.output) (h3 : w.heap.size ≤ w'.heap.size) (h : ∀ b, b < w.heap.size → v.ownBlock ≠ some b → w'.heap[b]? = w.heap[b]?) : ButV v w w' := by
  refine ⟨h1, h2, h3, fun b hb hlo => h b hb fun e => ?_⟩
  unfold blo bhi at hlo
  rw [e] at hlo
  simp only [Option.getD_some] at hlo
  omega
theorem butv_trans {v v1 : Value} {w w1 w2 : World} (h1 : ButV v w w1) (ho : Ow w v v1) (h2 : ButV v1 w1 w2) : ButV v w w2 := by
  refine butv_of (h2.os.trans h1.os) (h2.out.trans h1.out) (Nat.le_trans h1.size h2.size) fun b hb hv => ?_
  rw [butv_block h2 (Nat.lt_of_lt_of_le hb h1.size) ?_, butv_block h1 hb hv]
  intro e
  rcases ho b e with h | h
  · exact hv h
  · omega
theorem ow_trans {v v1 v2 : Value} {w w1 : World} (hs : w.heap.size ≤ w1.heap.size) (o1 : Ow w v v1) (o2 : Ow w1 v1 v2) : Ow w v v2 := fun g hg => by
  rcases o2 g hg with h | h
  · exact o1 g h
  · exact .inr (by omega)
theorem ow_refl (w : World) (v : Value) : Ow w v v := fun _ hg => .inl hg
theorem ow_app {v v' : Value} {w w0 : World} (h : v'.ownBlock = v.ownBlock ∨ v'.ownBlock = some w.heap.size) (hs : w0.heap.size ≤ w.heap.size) : Ow w0 v v' := fun g hg => by
  rcases h with h | h
  · exact .inl (by rw [← h]; exact hg)
  · rw [h] at hg
    cases hg
    exact .inr hs
theorem butv_kept {v : Value} {w w' : World} (h : Kept w w') : ButV v w w' := butv_of h.os h.out h.size fun b hb _ => h.block b hb (by omega)
/-- A value that lies in a block of its own. -/
def LocV (w : World) (b : Nat) (d : ValD) : Prop := w.heap[b]? = some (.cells (valC d).toArray 46 (0, 0))
theorem LocV.loc {w : World} {b : Nat} {d : ValD} (h : LocV w b d) : Loc w b (valC d) := ⟨_, h⟩
theorem LocV.lt {w : World} {b : Nat} {d : ValD} (h : LocV w b d) : b < w.heap.size := h.loc.lt
theorem LocV.byt {w w' : World} {b lo hi : Nat} {d : ValD} {v : Value} {l : List BytD} (h : LocV w b d) (hr : BytO w lo hi v l) (k : ButV v w w') : LocV w' b d := by
  unfold LocV
  rw [butv_block k h.lt ?_]
  · exact h
  · intro e
    rcases hr.1.2 with ⟨rfl, _⟩ | ⟨a, cap, cur, rfl, _, ha, _⟩
    · simp [Value.ownBlock] at e
    · simp [Value.ownBlock] at e
      subst e
      unfold LocV at h
      rw [h] at ha
      simp at ha
theorem LocV.new (w : World) (d : ValD) : LocV (w.alloc (.cells (valC d).toArray 46)) w.heap.size d := heap_alloc_new w _
/-- Blocks below are as they were. -/
theorem butv_below {w0 w w' : World} {lo hi : Nat} {v : Value} {l : List BytD} (hr : BytO w lo hi v l) (hl : w0.heap.size ≤ lo) (k0 : Kept w0 w) (k : ButV v w w') : Kept w0 w' :=
  ⟨k.os.trans k0.os, k.out.trans k0.out, Nat.le_trans k0.size k.size, fun b hb _ => by
    rw [butv_block k (Nat.lt_of_lt_of_le hb k0.size) (fun e => by have := (own_lt hr.1 e).1; omega), k0.block b hb (by omega)]⟩
theorem str_cells (s : ByteArray) : Go.Lib.strCells s = s.data.toList.flatMap bytC := by
  unfold Go.Lib.strCells
  induction s.data.toList with
  | nil => rfl
  | cons a t ih => rw [List.map_cons, List.flatMap_cons, ih]; rfl
/-- The letters of a text put behind bytes. -/
theorem apps_byt {w : World} {ops : Array Oper} {rest : List Oper} {o : Oper} {a : Act} {Q : Exit → Act → World → Prop} (hgd : o.guard = none) (s x : Operand)
    (ho : o.op = .call { callee := .builtin .append, args := #[s, x], argTypes := #[29, 9] }) {lo hi : Nat} {v : Value} {ps : List BytD} (hs : a.eval s = v) (hown : BytO w lo hi v ps)
    (t : ByteArray) (hx : a.eval x = .string t) (hb : ps.length + t.size ≤ 100000000) (hlo : lo ≤ w.heap.size)
    (h : ∀ v' w', BytO w' lo w'.heap.size v' (ps ++ t.data.toList) → ButV v w w' → wpList Try.prog ops Q rest (a.put o.dst v') w') : wpList Try.prog ops Q (o :: rest) a w := by
  obtain ⟨i0, hi0, hz0, hz1, hz2⟩ := info_parts info_bytA
  refine Lib.wpList_append_own_string w hgd s x 29 9 ho lo 5 i0 Try.underlying29 Try.underlying9 hi0 hz0 hz1 hz2 v ps.length (ps.flatMap bytC) hs hown.1 t hx (by unfold maxLen; omega) (by omega) hlo ?_
  intro v' w' h1 h2 _
  refine h v' w' ?_ ((But.refl _ _ w).grown h2 (fun g hg => .inr (by unfold blo bhi; rw [hg]; simp)))
  unfold BytO
  rw [List.length_append, List.flatMap_append, ← str_cells]
  exact RowO.top (by simpa using h1)

/-- append of bytes: only its own block turns. -/
theorem appv_byt {w : World} {ops : Array Oper} {rest : List Oper} {o : Oper} {a : Act} {Q : Exit → Act → World → Prop} (hgd : o.guard = none) (s x : Operand)
    (ho : o.op = .call { callee := .builtin .append, args := #[s, x], argTypes := #[29, 29] }) {lo hi : Nat} {v : Value} {ps : List BytD} (hs : a.eval s = v) (hown : BytO w lo hi v ps)
    {ao : Option Addr} {m c : Nat} {qs : List BytD} (hx : a.eval x = .slice ao m c) (hq : BytAt w (.slice ao m c) qs) (hm : m = qs.length) (hb : ps.length + qs.length ≤ 100000000) (hlo : lo ≤ w.heap.size)
    (h : ∀ v' w', BytO w' lo w'.heap.size v' (ps ++ qs) → ButV v w w' → wpList Try.prog ops Q rest (a.put o.dst v') w') : wpList Try.prog ops Q (o :: rest) a w := by
  subst hm
  obtain ⟨i0, hi0, hz0, hz1, hz2⟩ := info_parts info_bytA
  refine wpList_append_any w hgd s x 29 ho lo 5 i0 (.int .u8 0) 1 1 Try.underlying29 hi0 hz0 hz1 hz2 rfl (by decide) v ps.length (ps.flatMap bytC) hs hown.1 ao qs.length c (qs.flatMap bytC) hx (by rw [flat_len 1 bytC bytC_len] <;> omega) (src_byt hq) (ones_byt qs) (by unfold maxLen; omega) (by omega) hlo ?_
  intro v' w' h1 h2
  refine h v' w' ?_ ?_
  · unfold BytO
    rw [List.length_append, List.flatMap_append]
    exact RowO.top h1
  · exact (But.refl _ _ w).grown h2 (fun g hg => .inr (by unfold blo bhi; rw [hg]; simp))

end Go.Proofs.Ytklgjhemcofhhaa
