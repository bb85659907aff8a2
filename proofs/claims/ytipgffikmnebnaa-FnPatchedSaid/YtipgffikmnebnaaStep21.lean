/-
  A byte put behind others, among operations in any order.
-/
import Derived.Test.YtipgffikmnebnaaApp21
import Derived.Test.YtipgffikmnebnaaZed21
namespace Go.Proofs.Ytipgffikmnebnaa
open Go.ChangeShapes Go.WideShapes Go.ChangeAt Go.RowKit

set_option maxRecDepth 100000
set_option linter.unusedVariables false
set_option linter.unusedSimpArgs false

theorem step_byt {w : World} {ops : Array Oper} {o : Oper} {a : Act} {K : Act → World → Prop} {Q : Exit → Act → World → Prop} {E : Prop} (hgd : o.guard = none) (s x : Operand)
    (ho : o.op = .call { callee := .builtin .append, args := #[s, x], argTypes := #[22, 22] }) {lo hi : Nat} {v : Value} {ps : List BytD} (hs : a.eval s = v) (hown : BytO w lo hi v ps)
    {b : Nat} (p : BytD) (hx : a.eval x = .slice (some ⟨b, 0, none⟩) 1 1) (hL : Loc w b (bytC p)) (hb : ps.length + 1 ≤ 100000000) (hlo : lo ≤ w.heap.size)
    (h : ∀ v' w', BytO w' lo w'.heap.size v' (ps ++ [p]) → But (blo v) (bhi v) w w' → (v'.ownBlock = v.ownBlock ∨ v'.ownBlock = some w.heap.size) → K (a.put o.dst v') w') : if Region.wanted o (yielded ops a.tmps) = true then Oper.wp Try.prog o a w K Q else E := by
  have hw : Region.wanted o (yielded ops a.tmps) = true := by simp [Region.wanted, hgd]
  rw [if_pos hw]
  obtain ⟨i0, hi0, hz0, hz1, hz2⟩ := info_parts info_bytA
  obtain ⟨v', w', hr, h1, h2, -, h4⟩ := run_append_own_at (P := Try.prog) w lo 22 o.type 5 i0 (.int .u8 0) 1 1 Try.underlying22 hi0 hz0 hz1 hz2 rfl (by decide) v ps.length (ps.flatMap bytC) hown.1 ⟨b, 0, none⟩ 1 1 (bytC p) (bytC_len p) (news1 hL) (fun u hu => ones_byt [p] u (by simpa using hu)) (by unfold maxLen; omega) (by omega) hlo
  refine Lib.wp_append_run w s x 22 22 ho _ _ hs hx _ _ hr (h v' w' ?_ ?_ h4)
  · unfold BytO
    rw [List.length_append, List.flatMap_append]
    simpa using RowO.top h1
  · refine (But.refl _ _ w).grown h2 (fun g hg => .inr ?_)
    unfold blo bhi
    rw [hg]
    simp

end Go.Proofs.Ytipgffikmnebnaa
