/-
  The chunks of a patch: free of the program; what is left of a row.
-/
import Derived.Test.YtipgffikmnebnaaApP21
namespace Go.Proofs.Ytipgffikmnebnaa
open Go.ChangeShapes Go.WideShapes Go.ChangeAt Go.RowKit

set_option maxRecDepth 100000
set_option linter.unusedVariables false
set_option linter.unusedSimpArgs false

/-- With how many alike bytes both begin. -/
def alikeN : List UInt8 → List UInt8 → Nat
  | a :: x, b :: y => if a = b then alikeN x y + 1 else 0
  | _, _ => 0
theorem alike_le : ∀ x y : List UInt8, alikeN x y ≤ x.length ∧ alikeN x y ≤ y.length
  | [], y => by simp [alikeN]
  | a :: x, [] => by simp [alikeN]
  | a :: x, b :: y => by
    have := alike_le x y
    unfold alikeN
    split <;> simp <;> omega
theorem alike_step {x y : List UInt8} {k : Nat} {a b : UInt8} (ha : x[k]? = some a) (hb : y[k]? = some b) : alikeN (x.drop k) (y.drop k) = if a = b then alikeN (x.drop (k + 1)) (y.drop (k + 1)) + 1 else 0 := by
  have h1 := List.getElem?_eq_some_iff.1 ha
  have h2 := List.getElem?_eq_some_iff.1 hb
  rw [List.drop_eq_getElem_cons h1.1, List.drop_eq_getElem_cons h2.1, h1.2, h2.2]
  rfl
theorem alike_out {x y : List UInt8} {k : Nat} (h : ¬ (k < x.length ∧ k < y.length)) : alikeN (x.drop k) (y.drop k) = 0 := by
  by_cases h1 : k < x.length
  · rw [List.drop_eq_nil_of_le (show y.length ≤ k by omega)]
    cases x.drop k <;> rfl
  · rw [List.drop_eq_nil_of_le (show x.length ≤ k by omega)]
    rfl
/-- The longest stretch of now that stands in old from i on, against what was found. -/
def bestL (now : List UInt8) : Nat → List UInt8 → Nat × Nat → Nat × Nat
  | _, [], r => r
  | i, a :: x, r => bestL now (i + 1) x (if r.2 < alikeN (a :: x) now then (i, alikeN (a :: x) now) else r)
theorem best_at {now old : List UInt8} {k : Nat} {r : Nat × Nat} (h : k < old.length) : bestL now k (old.drop k) r = bestL now (k + 1) (old.drop (k + 1)) (if r.2 < alikeN (old.drop k) now then (k, alikeN (old.drop k) now) else r) := by
  rw [List.drop_eq_getElem_cons h]
  rfl
theorem best_end {now old : List UInt8} {k : Nat} {r : Nat × Nat} (h : ¬ k < old.length) : bestL now k (old.drop k) r = r := by
  rw [List.drop_eq_nil_of_le (by omega)]
  rfl
theorem best_bd (now : List UInt8) : ∀ (old : List UInt8) (i : Nat) (r : Nat × Nat), r.1 + r.2 ≤ i + old.length → r.2 ≤ now.length → (bestL now i old r).1 + (bestL now i old r).2 ≤ i + old.length ∧ (bestL now i old r).2 ≤ now.length
  | [], i, r, h, h2 => ⟨h, h2⟩
  | a :: x, i, r, h, h2 => by
    unfold bestL
    have hal := alike_le (a :: x) now
    have e : (a :: x).length = x.length + 1 := rfl
    by_cases hh : r.2 < alikeN (a :: x) now
    · rw [if_pos hh]
      have := best_bd now x (i + 1) (i, alikeN (a :: x) now) (by dsimp only; omega) (by dsimp only; omega)
      omega
    · rw [if_neg hh]
      have := best_bd now x (i + 1) r (by omega) h2
      omega
def withB (out : List ChunkD) (b : UInt8) : List ChunkD := match out.getLast? with
  | none => out ++ [(0, 0, [b])]
  | some d => if d.2.2 = [] then out ++ [(0, 0, [b])] else out.dropLast ++ [(d.1, d.2.1, d.2.2 ++ [b])]
def patchL (old : List UInt8) : Nat → List ChunkD → List UInt8 → List ChunkD
  | 0, out, _ => out
  | n + 1, out, [] => out
  | n + 1, out, b :: rest => if 4 ≤ (bestL (b :: rest) 0 old (0, 0)).2 then patchL old n (out ++ [(((bestL (b :: rest) 0 old (0, 0)).1 : Int), ((bestL (b :: rest) 0 old (0, 0)).2 : Int), [])]) ((b :: rest).drop (bestL (b :: rest) 0 old (0, 0)).2) else patchL old n (withB out b) rest
def patchA (old now : List UInt8) : List ChunkD := if old.length ≤ 400 ∧ now.length ≤ 400 then patchL old now.length [] now else []
theorem patch_end {old : List UInt8} (n : Nat) (out : List ChunkD) : patchL old n out [] = out := by cases n <;> rfl
theorem withB_len (out : List ChunkD) (b : UInt8) : (withB out b).length ≤ out.length + 1 := by
  unfold withB
  split
  · simp
  · split
    · simp
    · simp
theorem patchL_len (old : List UInt8) : ∀ (n : Nat) (out : List ChunkD) (now : List UInt8), (patchL old n out now).length ≤ out.length + n
  | 0, out, _ => Nat.le_refl _
  | n + 1, out, [] => by show out.length ≤ _; omega
  | n + 1, out, b :: rest => by
    unfold patchL
    split
    · have := patchL_len old n (out ++ [(((bestL (b :: rest) 0 old (0, 0)).1 : Int), ((bestL (b :: rest) 0 old (0, 0)).2 : Int), [])]) ((b :: rest).drop (bestL (b :: rest) 0 old (0, 0)).2)
      simp at this ⊢
      omega
    · have := patchL_len old n (withB out b) rest
      have := withB_len out b
      omega
theorem drop_byt {w : World} {ao : Option Addr} {n cap k : Nat} {l : List UInt8} (h : BytAt w (.slice ao n cap) l) (hn : n = l.length) (hk : k ≤ l.length) (hc : l.length ≤ cap) : BytAt w (.slice (if cap = k then ao else ao.map (·.add k)) (l.length - k) (cap - k)) (l.drop k) := by
  by_cases e : k = l.length
  · rw [List.drop_eq_nil_of_le (by omega), e, Nat.sub_self]
    exact ⟨_, _, rfl, fun j x hj => by simp at hj⟩
  · have := win_byt (k := k) (m := l.length - k) h (by omega) (by omega) hc
    rwa [List.take_of_length_le (by simp)] at this
theorem slice_fr (W : World) (ao : Option Addr) (n cap k : Nat) (hk : k ≤ n) : (Instr.slice 22 (.slice ao n cap) (some (.int .i64 (k : Int))) none none).run Try.prog W = .ok (.slice (if cap = k then ao else ao.map (·.add k)) (n - k) (cap - k)) W := by
  obtain ⟨i0, hi0, hz0, hz1, hz2⟩ := info_parts info_bytA
  rw [run_slice_l W 22 _ _ _ Try.underlying22 .i64 (k : Int) (by omega) (by omega)]
  simp [sizeOf, typeInfo, sliced, show Try.prog.elem 22 = 5 from by kernel_rfl, hi0, hz1]

end Go.Proofs.Ytipgffikmnebnaa
