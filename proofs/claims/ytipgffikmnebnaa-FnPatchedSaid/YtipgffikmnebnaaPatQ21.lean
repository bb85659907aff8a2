/-
  The chunks of a patch, one step after another.
-/
import Derived.Test.YtipgffikmnebnaaCApp21
namespace Go.Proofs.Ytipgffikmnebnaa
open Go.ChangeShapes Go.WideShapes Go.ChangeAt Go.RowKit

set_option maxRecDepth 100000
set_option linter.unusedVariables false
set_option linter.unusedSimpArgs false

theorem patch_nil (old : List UInt8) (n : Nat) (out : List ChunkD) : patchL old n out [] = out := patch_end n out
theorem patch_step {old : List UInt8} {n : Nat} {out : List ChunkD} {r : List UInt8} {b : UInt8} (hb : r[0]? = some b) : patchL old (n + 1) out r = if 4 ≤ (bestL r 0 old (0, 0)).2 then patchL old n (out ++ [(((bestL r 0 old (0, 0)).1 : Int), ((bestL r 0 old (0, 0)).2 : Int), [])]) (r.drop (bestL r 0 old (0, 0)).2) else patchL old n (withB out b) (r.drop 1) := by
  cases r with
  | nil => simp at hb
  | cons a t =>
    simp at hb
    subst hb
    rfl
theorem withB_bytes {out : List ChunkD} {b : UInt8} {N : Nat} (h : ∀ d ∈ out, d.2.2.length ≤ N) : ∀ d ∈ withB out b, d.2.2.length ≤ N + 1 := fun d hd => by
  by_cases he : out = []
  · rw [withB_new (.inl he), he] at hd
    simp at hd
    subst hd
    simp
  · have hpos := List.length_pos_iff.2 he
    obtain ⟨q, hq⟩ : ∃ d, out[out.length - 1]? = some d := ⟨_, List.getElem?_eq_getElem (by omega)⟩
    by_cases hy : q.2.2 = []
    · rw [withB_new (.inr ⟨q, hq, hy⟩)] at hd
      rcases List.mem_append.1 hd with h1 | h1
      · have := h d h1; omega
      · simp at h1
        subst h1
        simp
    · rw [withB_last hq hy] at hd
      rcases List.mem_or_eq_of_mem_set hd with h1 | h1
      · have := h d h1; omega
      · subst h1
        have := h q (List.mem_of_getElem? hq)
        simp
        omega
def slLen : Value → Nat
  | .slice _ n _ => n
  | _ => 0

end Go.Proofs.Ytipgffikmnebnaa
