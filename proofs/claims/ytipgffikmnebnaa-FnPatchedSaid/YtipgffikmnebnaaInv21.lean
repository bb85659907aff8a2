/-
  What a patch makes out of the old bytes: the new ones.
-/
import Derived.Test.YtipgffikmnebnaaPatQ21
import Derived.Test.YtipgffikmnebnaaCApp21
namespace Go.Proofs.Ytipgffikmnebnaa
open Go.ChangeShapes Go.WideShapes Go.ChangeAt Go.RowKit

set_option maxRecDepth 100000
set_option linter.unusedVariables false
set_option linter.unusedSimpArgs false

theorem alike_take : ∀ x y : List UInt8, x.take (alikeN x y) = y.take (alikeN x y)
  | [], y => by simp [alikeN]
  | a :: x, [] => by simp [alikeN]
  | a :: x, b :: y => by
    unfold alikeN
    by_cases h : a = b
    · rw [if_pos h, List.take_succ_cons, List.take_succ_cons, alike_take x y, h]
    · rw [if_neg h]; simp
theorem best_take (old now : List UInt8) : ∀ (x : List UInt8) (i : Nat) (r : Nat × Nat), old.drop i = x → (old.drop r.1).take r.2 = now.take r.2 → (old.drop (bestL now i x r).1).take (bestL now i x r).2 = now.take (bestL now i x r).2
  | [], i, r, _, h => h
  | a :: x, i, r, hx, h => by
    unfold bestL
    refine best_take old now x (i + 1) _ (by rw [← List.drop_drop, hx]; rfl) ?_
    split
    · show (old.drop i).take (alikeN (a :: x) now) = _
      rw [hx]
      exact alike_take _ _
    · exact h
theorem apply_snoc {old : List UInt8} {d : ChunkD} {p : List UInt8} (hp : pieceP old d = some p) : ∀ (cs : List ChunkD) (acc r : List UInt8), applyL old acc cs = some r → r.length + p.length ≤ 400 → applyL old acc (cs ++ [d]) = some (r ++ p)
  | [], acc, r, h, hb => by
    cases h
    show (match pieceP old d with | none => none | some p => if acc.length + p.length ≤ 400 then applyL old (acc ++ p) [] else none) = _
    rw [hp]
    dsimp only
    rw [if_pos hb]
    rfl
  | c :: cs, acc, r, h, hb => by
    rw [List.cons_append]
    unfold applyL at h ⊢
    split at h
    · cases h
    · rename_i q hq
      split at h
      · rename_i h4
        rw [if_pos h4]
        exact apply_snoc hp cs _ r h hb
      · cases h
theorem apply_pre {old : List UInt8} {d : ChunkD} : ∀ (cs : List ChunkD) (acc r : List UInt8), applyL old acc (cs ++ [d]) = some r → ∃ q p, applyL old acc cs = some q ∧ pieceP old d = some p ∧ r = q ++ p
  | [], acc, r, h => by
    have h : (match pieceP old d with | none => none | some p => if acc.length + p.length ≤ 400 then applyL old (acc ++ p) [] else none) = some r := h
    split at h
    · cases h
    · rename_i q hq
      split at h
      · cases h
        exact ⟨acc, q, rfl, hq, rfl⟩
      · cases h
  | c :: cs, acc, r, h => by
    rw [List.cons_append] at h
    unfold applyL at h ⊢
    split at h
    · cases h
    · rename_i q hq
      split at h
      · rename_i h4
        obtain ⟨q2, p2, e1, e2, e3⟩ := apply_pre cs _ r h
        refine ⟨q2, p2, ?_, e2, e3⟩
        rw [if_pos h4, e1]
      · cases h
theorem withB_apply {old : List UInt8} {out : List ChunkD} {p : List UInt8} {b : UInt8} (h : applyL old [] out = some p) (hb : p.length + 1 ≤ 400) : applyL old [] (withB out b) = some (p ++ [b]) := by
  have hone : pieceP old (0, 0, [b]) = some [b] := piece_data (c := (0, 0, [b])) (by simp) rfl rfl
  by_cases he : out = []
  · rw [withB_new (.inl he)]
    exact apply_snoc hone out [] p h (by simpa using hb)
  · obtain ⟨L, d, rfl⟩ : ∃ L d, out = L ++ [d] := ⟨out.dropLast, out.getLast he, (List.dropLast_concat_getLast he).symm⟩
    have hd : (L ++ [d])[(L ++ [d]).length - 1]? = some d := by simp
    by_cases hy : d.2.2 = []
    · rw [withB_new (.inr ⟨d, hd, hy⟩)]
      exact apply_snoc hone _ [] p h (by simpa using hb)
    · rw [withB_last hd hy, show (L ++ [d]).set ((L ++ [d]).length - 1) (d.1, d.2.1, d.2.2 ++ [b]) = L ++ [(d.1, d.2.1, d.2.2 ++ [b])] by simp]
      obtain ⟨q, x, e1, e2, e3⟩ := apply_pre L [] p h
      have hpos : 0 < d.2.2.length := List.length_pos_iff.2 hy
      have hz : d.1 = 0 ∧ d.2.1 = 0 := by
        by_cases hz : d.1 = 0 ∧ d.2.1 = 0
        · exact hz
        · rw [piece_dno hpos hz] at e2; cases e2
      rw [piece_data hpos hz.1 hz.2] at e2
      cases e2
      subst e3
      rw [List.append_assoc]
      refine apply_snoc (piece_data (c := (d.1, d.2.1, d.2.2 ++ [b])) (by simp) hz.1 hz.2) L [] q e1 ?_
      simp at hb ⊢
      omega
theorem patch_apply {old : List UInt8} : ∀ (n : Nat) (out : List ChunkD) (r p : List UInt8), r.length ≤ n → applyL old [] out = some p → p.length + r.length ≤ 400 → applyL old [] (patchL old n out r) = some (p ++ r)
  | 0, out, r, p, hn, h, hb => by
    have : r = [] := List.length_eq_zero_iff.1 (by omega)
    subst this
    rw [patch_nil, List.append_nil]
    exact h
  | n + 1, out, [], p, hn, h, hb => by
    rw [patch_nil, List.append_nil]
    exact h
  | n + 1, out, b :: rest, p, hn, h, hb => by
    have hst := patch_step (old := old) (n := n) (out := out) (r := b :: rest) (b := b) rfl
    have hbd := best_bd (b :: rest) old 0 (0, 0) (by simp) (by simp)
    have htk := best_take old (b :: rest) old 0 (0, 0) rfl (by simp)
    rw [hst]
    generalize bestL (b :: rest) 0 old (0, 0) = BB at *
    obtain ⟨F, M⟩ := BB
    dsimp only at hbd htk ⊢
    by_cases hM : 4 ≤ M
    · rw [if_pos hM]
      have hpc : pieceP old ((F : Int), (M : Int), []) = some ((b :: rest).take M) := by
        rw [piece_yes (c := ((F : Int), (M : Int), [])) (by simp) (by dsimp only; omega)]
        dsimp only
        rw [show ((F : Int)).toNat = F by omega, show ((M : Int)).toNat = M by omega, htk]
      have hl : ((b :: rest).take M).length = M := by rw [List.length_take]; omega
      have := patch_apply n (out ++ [((F : Int), (M : Int), [])]) ((b :: rest).drop M) (p ++ (b :: rest).take M) (by rw [List.length_drop]; omega) (apply_snoc hpc out [] p h (by omega)) (by rw [List.length_append, List.length_drop, hl]; omega)
      rw [this, List.append_assoc, List.take_append_drop]
    · rw [if_neg hM]
      have hb' : p.length + (rest.length + 1) ≤ 400 := hb
      have := patch_apply n (withB out b) rest (p ++ [b]) (by simp at hn; omega) (withB_apply h (by omega)) (by simp; omega)
      show applyL old [] (patchL old n (withB out b) rest) = _
      rw [this, List.append_assoc]
      rfl
theorem patch_gives {old now : List UInt8} (h1 : old.length ≤ 400) (h2 : now.length ≤ 400) : applyA old (patchA old now) = some now := by
  unfold applyA
  have hl : (patchA old now).length ≤ 400 := by
    unfold patchA
    rw [if_pos ⟨h1, h2⟩]
    have := patchL_len old now.length [] now
    simp at this
    omega
  rw [if_pos ⟨h1, hl⟩]
  unfold patchA
  rw [if_pos ⟨h1, h2⟩]
  exact patch_apply now.length [] now [] (Nat.le_refl _) rfl (by simpa using h2)

end Go.Proofs.Ytipgffikmnebnaa
