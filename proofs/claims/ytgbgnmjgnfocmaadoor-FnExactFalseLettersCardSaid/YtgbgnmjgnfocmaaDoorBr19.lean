/-
  Rows of bytes that are written.
-/
import Derived.Test.YtgbgnmjgnfocmaaDoorFalP19
import Derived.Test.YtgbgnmjgnfocmaaDoorLet19
import Derived.Laws.IdiomStrings
namespace Go.Proofs.YtgbgnmjgnfocmaaDoor
open Go.ChangeShapes Go.WideShapes Go.ChangeAt Go.RowKit

set_option maxRecDepth 100000
set_option linter.unusedVariables false

/-- A block whose first cells are these bytes; they may be written. -/
def BR (w : World) (g : Nat) (l : List UInt8) : Prop := ∃ cs t fr, w.heap[g]? = some (.cells cs t fr) ∧ l.length ≤ fr.1 ∧ ∀ (j : Nat) (c : UInt8), l[j]? = some c → cs[j]? = some (Value.int .u8 (c.toNat : Int))
theorem BR.kept {w w' : World} {g : Nat} {l : List UInt8} (h : BR w g l) (k : Kept w w') : BR w' g l := by
  obtain ⟨cs, t, fr, e, h1, h2⟩ := h
  exact ⟨cs, t, fr, (k.block g (Array.getElem?_eq_some_iff.1 e).1 (by omega)).trans e, h1, h2⟩
theorem BR.lt {w : World} {g : Nat} {l : List UInt8} (h : BR w g l) : g < w.heap.size := by
  obtain ⟨cs, t, fr, e, _, _⟩ := h
  exact (Array.getElem?_eq_some_iff.1 e).1
theorem BR.cell {w : World} {g : Nat} {l : List UInt8} (h : BR w g l) {j : Nat} {c : UInt8} (hc : l[j]? = some c) : w.cell? ⟨g, j, none⟩ = some (.int .u8 (c.toNat : Int)) ∧ w.frozen? ⟨g, j, none⟩ = false := by
  obtain ⟨cs, t, fr, e, h1, h2⟩ := h
  have hj : j < l.length := (List.getElem?_eq_some_iff.1 hc).1
  refine ⟨?_, ?_⟩
  · rw [cell_of_row w g j _ t fr e]
    exact h2 j c hc
  · obtain ⟨lo, hi⟩ := fr
    simp only [World.frozen?, e]
    simp
    simp only at h1
    omega
theorem BR.set {w : World} {g : Nat} {l : List UInt8} (h : BR w g l) {j : Nat} (d : UInt8) : BR (w.setCell ⟨g, j, none⟩ (.int .u8 (d.toNat : Int))) g (l.set j d) := by
  obtain ⟨cs, t, fr, e, h1, h2⟩ := h
  refine ⟨cs.setIfInBounds j (.int .u8 (d.toNat : Int)), t, fr, ?_, by rw [List.length_set]; exact h1, fun i c hc => ?_⟩
  · simp only [World.setCell, Array.getElem?_modify, if_true, e]
    simp
  · rw [Array.getElem?_setIfInBounds]
    rw [List.getElem?_set] at hc
    by_cases hij : j = i
    · subst hij
      rw [if_pos rfl] at hc ⊢
      split at hc
      · rename_i hjl
        cases hc
        have := h2 j _ (List.getElem?_eq_getElem hjl)
        rw [if_pos (Array.getElem?_eq_some_iff.1 this).1]
      · cases hc
    · rw [if_neg hij] at hc ⊢
      exact h2 i c hc
theorem BR.new (w : World) (s : ByteArray) (cap : Nat) (e : TypeId) : BR (w.drew.alloc (.cells (bytesRow s cap) e ((bytesRow s cap).size, (bytesRow s cap).size + 1))) w.heap.size s.data.toList := by
  refine ⟨bytesRow s cap, e, _, heap_alloc_new w.drew _, ?_, fun j c hc => ?_⟩
  · unfold bytesRow
    simp
  · have hj : j < s.data.size := by
      have := (List.getElem?_eq_some_iff.1 hc).1
      simpa using this
    rw [bytesRow_at s cap j hj]
    rw [Array.getElem?_toList, Array.getElem?_eq_getElem hj] at hc
    cases hc
    rfl
theorem BR.back {w : World} {g : Nat} {l : List UInt8} (h : BR w g l) (n cap : Nat) (hn : n = l.length) (src dst e : TypeId) (hs : Tryd.prog.underlying src = some (.slice e)) (he : Tryd.prog.underlying e = some (.int .u8)) (hd : Tryd.prog.underlying dst = some .string) :
    (convert src dst (.slice (some ⟨g, 0, none⟩) n cap)).run Tryd.prog w = .ok (.string ⟨l.toArray⟩) w := by
  subst hn
  refine run_convert_bytes_back w src dst e ⟨g, 0, none⟩ cap l hs he hd fun j hj => ?_
  rw [Go.WideShapes.add_plain, Nat.zero_add]
  exact (h.cell (List.getElem?_eq_getElem hj)).1
theorem forgetC {P : Program} {c : Go.Code} {Q : Exit → Act → World → Prop} {a : Act} {W : World} (F : World → Prop) (hF : F W) (h : ∀ W', F W' → Code.wp P c Q a W') : Code.wp P c Q a W := h W hF
theorem br_but (w : World) (g j : Nat) (v : Value) : But g (g + 1) w (w.setCell ⟨g, j, none⟩ v) := (But.refl _ _ w).setCell (by simp) (by simp) v
theorem at_pre {pre t : List UInt8} (c : UInt8) : (pre ++ c :: t)[pre.length]? = some c := by simp
theorem set_pre {pre t : List UInt8} (c d : UInt8) : (pre ++ c :: t).set pre.length d = pre ++ [d] ++ t := by simp
theorem open_at {pre t X : List UInt8} {c : UInt8} {e : Nat} (hc : c = 123) (hX : pre ++ fl (c :: t) = X) (h1 : pre.length ≤ e) (hn : ∀ i, pre.length ≤ i → i < e → (pre ++ c :: t)[i]? ≠ some 125) (he : (pre ++ c :: t)[e]? = some 125) :
    ∃ pre' rest', pre'.length = e + 1 ∧ pre' ++ rest' = pre ++ c :: t ∧ pre' ++ fl rest' = X := by
  subst hc
  have he0 : pre.length ≠ e := fun h => by
    subst h
    rw [at_pre] at he
    cases he
  obtain ⟨j, rfl⟩ : ∃ j, e = pre.length + (j + 1) := ⟨e - pre.length - 1, by omega⟩
  have hj : t[j]? = some 125 := by
    rw [List.getElem?_append_right (by omega)] at he
    simpa using he
  have hjl : j < t.length := (List.getElem?_eq_some_iff.1 hj).1
  have ht : t = t.take j ++ 125 :: t.drop (j + 1) := by
    have h2 : t.drop j = 125 :: t.drop (j + 1) := by
      rw [List.drop_eq_getElem_cons hjl]
      congr 1
      rw [List.getElem?_eq_getElem hjl] at hj
      exact Option.some.inj hj
    rw [← h2, List.take_append_drop]
  have hb : (125 : UInt8) ∉ t.take j := fun hm => by
    obtain ⟨i, hi⟩ := List.mem_iff_getElem?.1 hm
    rw [List.getElem?_take] at hi
    split at hi
    · rename_i hij
      refine hn (pre.length + (i + 1)) (by omega) (by omega) ?_
      rw [List.getElem?_append_right (by omega)]
      simpa using hi
    · cases hi
  refine ⟨pre ++ 123 :: (t.take j ++ [125]), t.drop (j + 1), ?_, ?_, ?_⟩
  · simp only [List.length_append, List.length_cons, List.length_take, List.length_nil]
    omega
  · conv => rhs; rw [ht]
    simp
  · rw [← hX]
    conv => rhs; rw [ht]
    rw [fl_open hb]
    simp
theorem u8_lt (c : UInt8) : (c.toNat : Int) ≤ 255 := by have := c.toNat_lt; omega
theorem rot_low (c : UInt8) (h1 : 97 ≤ (c.toNat : Int)) (h2 : (c.toNat : Int) ≤ 122) : ((rotB c).toNat : Int) = 97 + ((c.toNat : Int) - 97 + 13) % 26 := by rw [rotB_nat]; exact if_pos ⟨h1, h2⟩
theorem rot_up (c : UInt8) (h1 : 65 ≤ (c.toNat : Int)) (h2 : (c.toNat : Int) ≤ 90) : ((rotB c).toNat : Int) = 65 + ((c.toNat : Int) - 65 + 13) % 26 := by rw [rotB_nat]; unfold turnZ; rw [if_neg (by omega), if_pos ⟨h1, h2⟩]
theorem rot_not (c : UInt8) (h1 : ¬ (97 ≤ (c.toNat : Int) ∧ (c.toNat : Int) ≤ 122)) (h2 : ¬ (65 ≤ (c.toNat : Int) ∧ (c.toNat : Int) ≤ 90)) : rotB c = c := rotB_of c c (by unfold turnZ; rw [if_neg h1, if_neg h2])
theorem u8_eq (c : UInt8) (n : Nat) (hn : n < 256) : (c.toNat : Int) = (n : Int) ↔ c = UInt8.ofNat n := by
  constructor
  · intro h
    apply UInt8.toNat_inj.1
    rw [UInt8.toNat_ofNat']
    omega
  · intro h
    rw [h, UInt8.toNat_ofNat']
    omega

end Go.Proofs.YtgbgnmjgnfocmaaDoor
