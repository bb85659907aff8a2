/-
  append of a meant one in a region that draws its order.
-/
import Derived.Test.YthkfpbknfjapaaaApp1x17
import Derived.Test.YthkfpbknfjapaaaBApp17
import Derived.Test.YthkfpbknfjapaaaSHold17
import Derived.Test.YthkfpbknfjapaaaSPrO17
import Derived.Test.YthkfpbknfjapaaaGBS17
import Derived.Test.YthkfpbknfjapaaaPrsS17
import Derived.Test.YthkfpbknfjapaaaZed17
import Derived.Deep.DeepCutAuto
namespace Go.Proofs.Ythkfpbknfjapaaa
open Go.ChangeShapes Go.WideShapes Go.ChangeAt Go.RowKit

set_option maxRecDepth 100000
set_option linter.unusedVariables false

theorem step_meant {w : World} {ops : Array Oper} {o : Oper} {a : Act} {K : Act → World → Prop} {Q : Exit → Act → World → Prop} {E : Prop} (hgd : o.guard = none) (s x : Operand)
    (ho : o.op = .call { callee := .builtin .append, args := #[s, x], argTypes := #[27, 27] }) {lo hi : Nat} {v : Value} {ps : List MeantD} (hs : a.eval s = v) (hown : MeantO w lo hi v ps)
    {b : Nat} (p : MeantD) (hx : a.eval x = .slice (some ⟨b, 0, none⟩) 1 1) (hL : Loc w b (meantC p)) (hb : ps.length + 1 ≤ 100000000) (hlo : lo ≤ w.heap.size)
    (h : ∀ v' w', MeantO w' lo w'.heap.size v' (ps ++ [p]) → But (blo v) (bhi v) w w' → (v'.ownBlock = v.ownBlock ∨ v'.ownBlock = some w.heap.size) → K (a.put o.dst v') w') : if Region.wanted o (yielded ops a.tmps) = true then Oper.wp Try.prog o a w K Q else E := by
  have hw : Region.wanted o (yielded ops a.tmps) = true := by simp [Region.wanted, hgd]
  rw [if_pos hw]
  obtain ⟨i0, hi0, hz0, hz1, hz2⟩ := info_parts info_meantA
  obtain ⟨v', w', hr, h2, h3, _, h5⟩ := run_append_own_at (P := Try.prog) w lo 27 o.type 31 i0 (.agg #[.int .i64 0, .string ByteArray.empty, .bool false]) 3 32 Try.underlying27 hi0 hz0 hz1 hz2 rfl (by decide) v ps.length (ps.flatMap meantC) hown.1 ⟨b, 0, none⟩ 1 1 (meantC p) (meantC_len p) (news1 hL) (fun u hu => ones_meant [p] u (by simpa using hu)) (by unfold maxLen; omega) (by omega) hlo
  refine Lib.wp_append_run w s x 27 27 ho _ _ hs hx _ _ hr (h v' w' ?_ ?_ h5)
  · unfold MeantO
    rw [List.length_append, List.flatMap_append]
    simpa using RowO.top h2
  · refine (But.refl _ _ w).grown h3 (fun g hg => .inr ?_)
    unfold blo bhi
    rw [hg]
    simp

end Go.Proofs.Ythkfpbknfjapaaa
