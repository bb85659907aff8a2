/-
  append(a, b...) onto a row of its own, where a guard lets it through.
-/
import Derived.Test.YthihgjcnjgpegaaSame
import Derived.Test.YthihgjcnjgpegaaPut0
import Derived.Test.YthihgjcnjgpegaaFire
import Derived.Maps.AppendAt
namespace Go.Proofs.Ythihgjcnjgpegaa
open Go.ChangeShapes Go.WideShapes Go.ChangeAt Go.RowKit

theorem own_capO {w : World} {base : Nat} {e : TypeId} {size n n' cap : Nat} {ao : Option Addr} {xs : List Value} (h : w.ownsRow base e size (.slice ao n' cap) n xs) : n' ≤ cap := by
  rcases h.2 with ⟨h1, h2⟩ | ⟨g, cap', cur, h1, _, _, h2, _⟩
  · cases h1; omega
  · cases h1; exact h2
theorem app_onto {ops : Array Oper} {rest : List Oper} {o : Oper} {a : Act} {w : World} {Q : Exit → Act → World → Prop} (hw : Region.wanted o (yielded ops a.tmps) = true) (s x : Operand) (ho : o.op = .call { callee := .builtin .append, args := #[s, x], argTypes := #[28, 28] })
    (base cap cap' : Nat) (ao ao' : Option Addr) (l m : List FiredD) (hs : a.eval s = .slice ao l.length cap) (hx : a.eval x = .slice ao' m.length cap') (hown : w.ownsRow base 83 2 (.slice ao l.length cap) l.length (l.flatMap firedC)) (hv : FiredAt w (.slice ao' m.length cap') m) (hn : l.length + m.length ≤ 1048576) (hb : base ≤ w.heap.size)
    (h : ∀ v' w', FiredO w' base w'.heap.size v' (l ++ m) → w.grownBy w' (Value.slice ao l.length cap).ownBlock → wpList Try.prog ops Q rest (a.put o.dst v') w') : wpList Try.prog ops Q (o :: rest) a w := by
  obtain ⟨i0, hi0, hz0, hz1, hz2⟩ := info_parts info83
  refine wpList_step fun K hK => ?_
  rw [if_pos hw]
  cases ao' with
  | none =>
    have hl0 : m = [] := by
      have := row_none hv
      cases m with
      | nil => rfl
      | cons p ps => simp [firedC] at this
    subst hl0
    have hr := run_append_none (P := Try.prog) w 28 o.type 83 i0 Try.underlying28 hi0 ao l.length cap cap' (own_capO hown)
    unfold Oper.wp execOp
    have hx' : a.eval x = .slice none 0 cap' := hx
    simp only [ho, resolve, invoke, builtin, Sem.run_bind, Sem.run_pure, Result.andThen_ok, List.map_toArray, List.map_cons, List.map_nil, hs, hx', hr]
    exact hK _ _ (h _ _ (by rw [List.append_nil]; exact RowO.top hown) ⟨rfl, rfl, rfl, Nat.le_refl _, fun _ _ _ => rfl⟩)
  | some ad =>
    have hc : ∀ j u, (m.flatMap firedC)[j]? = some u → w.cell? (ad.add j) = some u := by
      cases m with
      | nil => intro j u hu; simp at hu
      | cons p ps =>
        obtain ⟨b, o', cap', e, _⟩ := fired_get hv (i := 0) (p := p) rfl
        cases e
        exact row_cells hv
    obtain ⟨v', w', hr, h2, h3, -, h5⟩ := run_append_own_at (P := Try.prog) w base 28 o.type 83 i0 (.agg #[.int .i64 0, .int .i64 0]) 2 16 Try.underlying28 hi0 hz0 hz1 hz2 rfl (by decide) _ l.length (l.flatMap firedC) hown ad m.length cap' (m.flatMap firedC) (flat_len 2 firedC firedC_len m) hc (one_fired m) (by unfold maxLen; omega) (by omega) hb
    unfold Oper.wp execOp
    simp only [ho, resolve, invoke, builtin, Sem.run_bind, Sem.run_pure, Result.andThen_ok, List.map_toArray, List.map_cons, List.map_nil, hs, hx, hr]
    refine hK _ _ (h v' w' ?_ h3)
    rw [← List.flatMap_append] at h2
    show RowO w' base w'.heap.size 83 2 v' (l ++ m).length ((l ++ m).flatMap firedC)
    rw [List.length_append]
    exact RowO.top h2
end Go.Proofs.Ythihgjcnjgpegaa
