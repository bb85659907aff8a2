/-
  Clearing the flags of what is taken.
-/
import Derived.Test.YtnfkgnbhdhpnmaaITake13
import Derived.Lib.SliceRun
namespace Go.Proofs.Ytnfkgnbhdhpnmaa
open Go.ChangeShapes Go.WideShapes Go.ChangeAt Go.RowKit

set_option maxRecDepth 100000
set_option linter.unusedVariables false
theorem but_setCells {T : Nat} {a : World} : ∀ (vs : List Value) (o : Nat) (w : World), But T (T + 1) a w → But T (T + 1) a (w.setCells T o vs)
  | [], _, _, h => h
  | v :: r, o, w, h => but_setCells r (o + 1) _ (h.setCell (Nat.le_refl _) (Nat.lt_succ_self _) v)
/-- A variable of which a stretch has been set. -/
theorem loc_setCells {T : Nat} : ∀ (vs : List Value) (o : Nat) (w : World) (cs : List Value), Loc w T cs → ∃ cs', Loc (w.setCells T o vs) T cs' ∧ cs'.length = cs.length ∧ ∀ i, cs'[i]? = if o ≤ i ∧ i < o + vs.length ∧ i < cs.length then vs[i - o]? else cs[i]?
  | [], o, w, cs, h => ⟨cs, h, rfl, fun i => by rw [if_neg (by simp; omega)]⟩
  | v :: r, o, w, cs, h => by
    obtain ⟨cs', h1, h2, h3⟩ := loc_setCells r (o + 1) _ _ (h.set o v)
    rw [List.length_set] at h2
    refine ⟨cs', h1, h2, fun i => ?_⟩
    rw [h3 i, List.length_set, List.getElem?_set]
    by_cases e : o = i
    · subst e
      by_cases hl : o < cs.length
      · rw [if_neg (by omega), if_pos rfl, if_pos hl, if_pos (by simp; omega)]; simp
      · rw [if_neg (by omega), if_pos rfl, if_neg hl, if_neg (by omega), List.getElem?_eq_none (by omega)]
    · rw [if_neg e]
      by_cases c : o + 1 ≤ i ∧ i < o + 1 + r.length ∧ i < cs.length
      · rw [if_pos c, if_pos (by simp; omega)]
        rw [show i - o = (i - (o + 1)) + 1 by omega]
        rfl
      · rw [if_neg c, if_neg (by simp; omega)]
/-- The flags, all cleared. -/
theorem clear_flags {w : World} {T : Nat} {tk : Nat → Bool} (h : Loc w T (tkL tk)) : Loc (w.setCells T 0 (List.replicate 64 (.bool false))) T (tkL fun _ => false) ∧ But T (T + 1) w (w.setCells T 0 (List.replicate 64 (.bool false))) := by
  refine ⟨?_, but_setCells _ _ _ (But.refl _ _ _)⟩
  obtain ⟨cs', h1, h2, h3⟩ := loc_setCells (List.replicate 64 (.bool false)) 0 w _ h
  have e : cs' = tkL fun _ => false := by
    apply List.ext_getElem?
    intro i
    rw [h3 i, tkL_len]
    by_cases hi : i < 64
    · rw [if_pos (by simp; omega), List.getElem?_replicate, if_pos (by omega), tkL_get hi]
    · rw [if_neg (by omega), List.getElem?_eq_none (by rw [tkL_len]; omega), List.getElem?_eq_none (by rw [tkL_len]; omega)]
  rw [e] at h1
  exact h1
theorem run_clear_flags {w : World} {T : Nat} {tk : Nat → Bool} (h : Loc w T (tkL tk)) (ty : TypeId) : (Builtin.clear_ #[60] ty #[.slice (some ⟨T, 0, none⟩) 64 64]).run Try.prog w = .ok (.tuple #[]) (w.setCells T 0 (List.replicate 64 (.bool false))) :=
  Lib.run_clear_slice w _ _ ty _ Try.underlying60 Try.zeroValue4 rfl rfl T 0 _ _ (by omega) (fun t ht => by
    rw [Nat.zero_add, h.cell t (tkL_get ht)]; rfl) (fun t ht => h.frozen _)

end Go.Proofs.Ytnfkgnbhdhpnmaa
