/-
  append of one onto a row of its own, and where it lies then.
-/
import Derived.Test.YthkfpbknfjapaaaApp17
import Derived.Maps.AppendAt
namespace Go.Proofs.Ythkfpbknfjapaaa
open Go.ChangeShapes Go.WideShapes Go.ChangeAt Go.RowKit

set_option maxRecDepth 100000
set_option linter.unusedVariables false

/-- append of one onto a row of its own: it stays in its block or lies in a new one. -/
theorem app1_num {w : World} {ops : Array Oper} {rest : List Oper} {o : Oper} {a : Act} {Q : Exit → Act → World → Prop} (hgd : o.guard = none) (s x : Operand)
    (ho : o.op = .call { callee := .builtin .append, args := #[s, x], argTypes := #[39, 39] }) {lo hi : Nat} {v : Value} {ps : List NumD} (hs : a.eval s = v) (hown : NumO w lo hi v ps)
    {b : Nat} (p : NumD) (hx : a.eval x = .slice (some ⟨b, 0, none⟩) 1 1) (hL : Loc w b (numC p)) (hb : ps.length + 1 ≤ 100000000) (hlo : lo ≤ w.heap.size)
    (h : ∀ v' w', NumO w' lo w'.heap.size v' (ps ++ [p]) → But (blo v) (bhi v) w w' → (v'.ownBlock = v.ownBlock ∨ v'.ownBlock = some w.heap.size) → wpList Try.prog ops Q rest (a.put o.dst v') w') : wpList Try.prog ops Q (o :: rest) a w := by
  obtain ⟨i0, hi0, hz0, hz1, hz2⟩ := info_parts info_numA
  refine wpList_append_own_at w hgd s x 39 ho lo 3 i0 (.int .i64 0) 1 8 Try.underlying39 hi0 hz0 hz1 hz2 rfl (by decide) v ps.length (ps.flatMap numC) hs hown.1 ⟨b, 0, none⟩ 1 1 (numC p) hx (numC_len p) (news1 hL) (fun u hu => ones_num [p] u (by simpa using hu)) (by unfold maxLen; omega) (by omega) hlo ?_
  intro v' w' h1 h2 _ h4
  refine h v' w' ?_ ?_ h4
  · unfold NumO
    rw [List.length_append, List.flatMap_append]
    simpa using RowO.top h1
  · refine (But.refl _ _ w).grown h2 (fun g hg => .inr ?_)
    unfold blo bhi
    rw [hg]
    simp
theorem ap1_num {w : World} {lo hi : Nat} {u v v' : Value} {qs : List NumD} (h : NumO w lo hi u qs) (ha : Ap u v) (h4 : v'.ownBlock = v.ownBlock ∨ v'.ownBlock = some w.heap.size) : Ap u v' := fun g hg hg' => by
  rcases h4 with h4 | h4
  · exact ha g hg (by rw [← h4]; exact hg')
  · rw [h4] at hg'
    cases hg'
    have := (own_lt h.1 hg).2
    omega

/-- append of one onto a row of its own: it stays in its block or lies in a new one. -/
theorem app1_meant {w : World} {ops : Array Oper} {rest : List Oper} {o : Oper} {a : Act} {Q : Exit → Act → World → Prop} (hgd : o.guard = none) (s x : Operand)
    (ho : o.op = .call { callee := .builtin .append, args := #[s, x], argTypes := #[27, 27] }) {lo hi : Nat} {v : Value} {ps : List MeantD} (hs : a.eval s = v) (hown : MeantO w lo hi v ps)
    {b : Nat} (p : MeantD) (hx : a.eval x = .slice (some ⟨b, 0, none⟩) 1 1) (hL : Loc w b (meantC p)) (hb : ps.length + 1 ≤ 100000000) (hlo : lo ≤ w.heap.size)
    (h : ∀ v' w', MeantO w' lo w'.heap.size v' (ps ++ [p]) → But (blo v) (bhi v) w w' → (v'.ownBlock = v.ownBlock ∨ v'.ownBlock = some w.heap.size) → wpList Try.prog ops Q rest (a.put o.dst v') w') : wpList Try.prog ops Q (o :: rest) a w := by
  obtain ⟨i0, hi0, hz0, hz1, hz2⟩ := info_parts info_meantA
  refine wpList_append_own_at w hgd s x 27 ho lo 31 i0 (.agg #[.int .i64 0, .string ByteArray.empty, .bool false]) 3 32 Try.underlying27 hi0 hz0 hz1 hz2 rfl (by decide) v ps.length (ps.flatMap meantC) hs hown.1 ⟨b, 0, none⟩ 1 1 (meantC p) hx (meantC_len p) (news1 hL) (fun u hu => ones_meant [p] u (by simpa using hu)) (by unfold maxLen; omega) (by omega) hlo ?_
  intro v' w' h1 h2 _ h4
  refine h v' w' ?_ ?_ h4
  · unfold MeantO
    rw [List.length_append, List.flatMap_append]
    simpa using RowO.top h1
  · refine (But.refl _ _ w).grown h2 (fun g hg => .inr ?_)
    unfold blo bhi
    rw [hg]
    simp
theorem ap1_meant {w : World} {lo hi : Nat} {u v v' : Value} {qs : List MeantD} (h : MeantO w lo hi u qs) (ha : Ap u v) (h4 : v'.ownBlock = v.ownBlock ∨ v'.ownBlock = some w.heap.size) : Ap u v' := fun g hg hg' => by
  rcases h4 with h4 | h4
  · exact ha g hg (by rw [← h4]; exact hg')
  · rw [h4] at hg'
    cases hg'
    have := (own_lt h.1 hg).2
    omega

end Go.Proofs.Ythkfpbknfjapaaa
