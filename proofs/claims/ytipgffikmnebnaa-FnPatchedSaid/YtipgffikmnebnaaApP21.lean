/-
  What the chunks of a patch make, and windows of rows of bytes.
-/
import Derived.Test.YtipgffikmnebnaaChunks
import Derived.Test.YtipgffikmnebnaaApp21
import Derived.Laws.Slices
namespace Go.Proofs.Ytipgffikmnebnaa
open Go.ChangeShapes Go.WideShapes Go.ChangeAt Go.RowKit

set_option maxRecDepth 100000
set_option linter.unusedVariables false
set_option linter.unusedSimpArgs false

def pieceP (old : List UInt8) (c : ChunkD) : Option (List UInt8) :=
  if 0 < c.2.2.length then (if c.1 = 0 ∧ c.2.1 = 0 then some c.2.2 else none)
  else if 0 ≤ c.1 ∧ 1 ≤ c.2.1 ∧ c.2.1 ≤ (old.length : Int) - c.1 then some ((old.drop c.1.toNat).take c.2.1.toNat) else none
def applyL (old : List UInt8) : List UInt8 → List ChunkD → Option (List UInt8)
  | acc, [] => some acc
  | acc, c :: cs => match pieceP old c with
    | none => none
    | some p => if acc.length + p.length ≤ 400 then applyL old (acc ++ p) cs else none
def applyA (old : List UInt8) (cs : List ChunkD) : Option (List UInt8) := if old.length ≤ 400 ∧ cs.length ≤ 400 then applyL old [] cs else none
theorem piece_data {old : List UInt8} {c : ChunkD} (h : 0 < c.2.2.length) (h1 : c.1 = 0) (h2 : c.2.1 = 0) : pieceP old c = some c.2.2 := by unfold pieceP; rw [if_pos h, if_pos ⟨h1, h2⟩]
theorem piece_dno {old : List UInt8} {c : ChunkD} (h : 0 < c.2.2.length) (h1 : ¬ (c.1 = 0 ∧ c.2.1 = 0)) : pieceP old c = none := by unfold pieceP; rw [if_pos h, if_neg h1]
theorem piece_yes {old : List UInt8} {c : ChunkD} (h : ¬ 0 < c.2.2.length) (h1 : 0 ≤ c.1 ∧ 1 ≤ c.2.1 ∧ c.2.1 ≤ (old.length : Int) - c.1) : pieceP old c = some ((old.drop c.1.toNat).take c.2.1.toNat) := by unfold pieceP; rw [if_neg h, if_pos h1]
theorem piece_no {old : List UInt8} {c : ChunkD} (h : ¬ 0 < c.2.2.length) (h1 : ¬ (0 ≤ c.1 ∧ 1 ≤ c.2.1 ∧ c.2.1 ≤ (old.length : Int) - c.1)) : pieceP old c = none := by unfold pieceP; rw [if_neg h, if_neg h1]
theorem piece_len {old : List UInt8} {c : ChunkD} {p : List UInt8} (h : pieceP old c = some p) : p.length ≤ c.2.2.length + old.length := by
  unfold pieceP at h
  split at h
  · split at h
    · cases h; omega
    · cases h
  · split at h
    · cases h; simp; omega
    · cases h
theorem apply_end {old acc : List UInt8} {cs : List ChunkD} {k : Nat} (h : ¬ k < cs.length) : applyL old acc (cs.drop k) = some acc := by
  rw [List.drop_eq_nil_of_le (by omega)]
  rfl
theorem apply_at {old acc : List UInt8} {cs : List ChunkD} {k : Nat} {c : ChunkD} (h : cs[k]? = some c) : applyL old acc (cs.drop k) = (match pieceP old c with
    | none => none
    | some p => if acc.length + p.length ≤ 400 then applyL old (acc ++ p) (cs.drop (k + 1)) else none) := by
  have hg := List.getElem?_eq_some_iff.1 h
  rw [List.drop_eq_getElem_cons hg.1, hg.2]
  rfl
/-- A window of a row of bytes. -/
theorem win_byt {w : World} {ao : Option Addr} {n cap k m : Nat} {l : List UInt8} (h : BytAt w (.slice ao n cap) l) (hk : k + m ≤ l.length) (hm : 0 < m) (hc : l.length ≤ cap) : BytAt w (.slice (if cap = k then ao else ao.map (·.add k)) m (cap - k)) ((l.drop k).take m) := by
  have e : ∀ q : List UInt8, q.flatMap bytC = q.map fun y => Value.int .u8 (y.toNat : Int) := fun q => by
    induction q with
    | nil => rfl
    | cons a q ih => rw [List.flatMap_cons, ih]; rfl
  refine ⟨_, cap - k, by rw [List.length_take, List.length_drop, Nat.min_eq_left (by omega)], fun j x hj => ?_⟩
  obtain ⟨ao', cap', e1, hc1⟩ := h
  cases e1
  rw [e, List.getElem?_map] at hj
  cases hh : ((l.drop k).take m)[j]? with
  | none => rw [hh] at hj; simp at hj
  | some y =>
    rw [hh] at hj
    simp at hj
    subst hj
    have hjm : j < m := by have := (List.getElem?_eq_some_iff.1 hh).1; simp at this; omega
    rw [List.getElem?_take_of_lt hjm, List.getElem?_drop] at hh
    obtain ⟨b, o, e2, c0⟩ := hc1 (k + j) (.int .u8 (y.toNat : Int)) (by rw [e, List.getElem?_map, hh]; rfl)
    subst e2
    rw [if_neg (by omega)]
    exact ⟨b, o + k, by simp [Go.WideShapes.add_plain], by rw [Nat.add_assoc]; exact c0⟩
theorem slice_win (W : World) (ao : Option Addr) (n cap : Nat) (x y : Int) (h0 : 0 ≤ x) (h1 : x ≤ y) (h2 : y ≤ cap) : (Instr.slice 22 (.slice ao n cap) (some (.int .i64 x)) (some (.int .i64 y)) none).run Try.prog W = .ok (.slice (if cap = x.toNat then ao else ao.map (·.add x.toNat)) (y - x).toNat (cap - x.toNat)) W := by
  obtain ⟨i0, hi0, hz0, hz1, hz2⟩ := info_parts info_bytA
  rw [run_slice_lh W 22 _ _ _ Try.underlying22 .i64 .i64 x y h0 h1 h2]
  simp [sizeOf, typeInfo, sliced, show Try.prog.elem 22 = 5 from by kernel_rfl, hi0, hz1]
  congr 1
  omega

end Go.Proofs.Ytipgffikmnebnaa
