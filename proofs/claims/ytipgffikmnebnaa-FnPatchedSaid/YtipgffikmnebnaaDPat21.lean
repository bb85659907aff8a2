/-
  Two rows of bytes, drawn; the numbers of a patch.
-/
import Derived.Test.YtipgffikmnebnaaRows21
import Derived.Test.YtipgffikmnebnaaInv21
import Derived.Test.YtipgffikmnebnaaChunks
namespace Go.Proofs.Ytipgffikmnebnaa
open Go.ChangeShapes Go.WideShapes Go.ChangeAt Go.RowKit

set_option maxRecDepth 100000
set_option linter.unusedVariables false
set_option linter.unusedSimpArgs false

theorem hide {p : Prop} (h : p) : Hid p := h
theorem withB_rng {out : List ChunkD} {b : UInt8} (h : ∀ d ∈ out, 0 ≤ d.1 ∧ d.1 ≤ 400) : ∀ d ∈ withB out b, 0 ≤ d.1 ∧ d.1 ≤ 400 := fun d hd => by
  by_cases he : out = []
  · rw [withB_new (.inl he), he] at hd
    simp at hd
    subst hd
    simp
  · have hpos := List.length_pos_iff.2 he
    obtain ⟨q, hq⟩ : ∃ d, out[out.length - 1]? = some d := ⟨_, List.getElem?_eq_getElem (by omega)⟩
    by_cases hy : q.2.2 = []
    · rw [withB_new (.inr ⟨q, hq, hy⟩)] at hd
      rcases List.mem_append.1 hd with h1 | h1
      · exact h d h1
      · simp at h1
        subst h1
        simp
    · rw [withB_last hq hy] at hd
      rcases List.mem_or_eq_of_mem_set hd with h1 | h1
      · exact h d h1
      · subst h1
        exact h q (List.mem_of_getElem? hq)
theorem patchL_rng {old : List UInt8} (ho : old.length ≤ 400) : ∀ (n : Nat) (out : List ChunkD) (r : List UInt8), (∀ d ∈ out, 0 ≤ d.1 ∧ d.1 ≤ 400) → ∀ d ∈ patchL old n out r, 0 ≤ d.1 ∧ d.1 ≤ 400
  | 0, out, r, h => h
  | n + 1, out, [], h => h
  | n + 1, out, b :: rest, h => by
    have hbd := best_bd (b :: rest) old 0 (0, 0) (by simp) (by simp)
    rw [patch_step (old := old) (n := n) (out := out) (r := b :: rest) (b := b) rfl]
    split
    · refine patchL_rng ho n _ _ fun d hd => ?_
      rcases List.mem_append.1 hd with h1 | h1
      · exact h d h1
      · simp at h1
        subst h1
        dsimp only
        omega
    · exact patchL_rng ho n _ _ (withB_rng h)
theorem patchA_rng (old now : List UInt8) : ∀ d ∈ patchA old now, -9223372036854775808 ≤ d.1 ∧ d.1 ≤ 9223372036854775807 := fun d hd => by
  unfold patchA at hd
  split at hd
  · rename_i h
    have := patchL_rng h.1 now.length [] now (fun d hd => by simp at hd) d hd
    omega
  · simp at hd
theorem cost_app (a b : List ChunkD) : chunksCost (a ++ b) = chunksCost a + chunksCost b := by
  unfold chunksCost
  simp only [List.length_append, List.map_append, List.sum_append]
  omega
theorem cost_one (d : ChunkD) : chunksCost [d] = 1 + d.2.2.length := by simp [chunksCost, chunksOne]
theorem withB_cost (out : List ChunkD) (b : UInt8) : chunksCost (withB out b) ≤ chunksCost out + 2 := by
  by_cases he : out = []
  · rw [withB_new (.inl he), cost_app, cost_one]
    simp
  · obtain ⟨L, d, rfl⟩ : ∃ L d, out = L ++ [d] := ⟨out.dropLast, out.getLast he, (List.dropLast_concat_getLast he).symm⟩
    have hd : (L ++ [d])[(L ++ [d]).length - 1]? = some d := by simp
    by_cases hy : d.2.2 = []
    · rw [withB_new (.inr ⟨d, hd, hy⟩), cost_app (L ++ [d]), cost_one]
      simp
    · rw [withB_last hd hy, show (L ++ [d]).set ((L ++ [d]).length - 1) (d.1, d.2.1, d.2.2 ++ [b]) = L ++ [(d.1, d.2.1, d.2.2 ++ [b])] by simp, cost_app, cost_app, cost_one, cost_one]
      simp
      omega
theorem patchL_cost {old : List UInt8} : ∀ (n : Nat) (out : List ChunkD) (r : List UInt8), chunksCost (patchL old n out r) ≤ chunksCost out + 2 * n
  | 0, out, r => by show chunksCost out ≤ _; omega
  | n + 1, out, [] => by show chunksCost out ≤ _; omega
  | n + 1, out, b :: rest => by
    unfold patchL
    split
    · refine Nat.le_trans (patchL_cost n _ _) ?_
      rw [cost_app, cost_one]
      simp
      omega
    · refine Nat.le_trans (patchL_cost n _ _) ?_
      have := withB_cost out b
      omega
theorem patchA_cost (old now : List UInt8) : chunksCost (patchA old now) ≤ 1000 := by
  unfold patchA
  split
  · have := patchL_cost (old := old) now.length [] now
    have e : chunksCost ([] : List ChunkD) = 0 := rfl
    omega
  · show 0 ≤ _
    omega
set_option maxHeartbeats 4000000 in
theorem draw_ok (ao : Option Addr) (len cap : Nat) (w : World) (hc : Code w ao len) (hl : len ≤ 1048576) :
    Calls Try.prog 21 #[.slice ao len cap] w fun e w' => ∃ (l m : List UInt8) (a1 a2 : Option Addr) (c1 c2 : Nat), e = .returned (.tuple #[.slice a1 l.length c1, .slice a2 m.length c2]) ∧ l.length ≤ 500 ∧ m.length ≤ 500 ∧ BytO w' w.heap.size w'.heap.size (.slice a1 l.length c1) l ∧ BytO w' w.heap.size w'.heap.size (.slice a2 m.length c2) m ∧ Kept w w' := by
  have H0 := hide (Code.cur (cap := cap) (t := 91) hc (by omega))
  go_enter Try.func21, Try.ntmps21
  repeat (first | go_values | go_skip | go_guarded | go_step | go_upon)
  go_at_call 76
  refine (rows_ok _ _ 0 H0.out (by omega)).mono ?_
  rintro e w1 ⟨l, v1, rfl, hl1, o1, C1, g1⟩
  obtain ⟨a1, c1, hf⟩ := o1.form
  subst hf
  have HO1 := hide o1
  have HC1 := hide C1
  have HG1 := hide g1
  clear o1 C1 g1 H0
  dsimp only
  repeat (first | go_values | go_skip | go_guarded | go_step | go_upon)
  go_at_call 76
  refine (rows_ok _ _ _ HC1.out (by omega)).mono ?_
  rintro e w2 ⟨m, v2, rfl, hm1, o2, _, g2⟩
  obtain ⟨a2, c2, hf⟩ := o2.form
  subst hf
  have HO2 := hide o2
  have HG2 := hide g2
  clear o2 g2
  dsimp only
  repeat (first | go_values | go_skip | go_guarded | go_step | go_upon)
  go_ret2
  have e1 := HG1.out.size
  simp only [World.size_alloc] at e1
  have e2 := HG2.out.size
  exact ⟨l, m, a1, a2, c1, c2, rfl, hl1, hm1, (HO1.out.but HG2.out (.inr (by simp))).mono (by simp) e2, HO2.out.mono (by omega) (Nat.le_refl _), But.onto ((But.refl 0 0 w).alloc _) (HG1.out.trans HG2.out) (Nat.le_refl _)⟩

end Go.Proofs.Ytipgffikmnebnaa
