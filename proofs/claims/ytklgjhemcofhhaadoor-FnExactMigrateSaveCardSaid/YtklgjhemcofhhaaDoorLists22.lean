/-
  Parts of lists of values.
-/
import Derived.Test.YtklgjhemcofhhaaDoorMigP22
import Derived.Test.YtklgjhemcofhhaaDoorApp22
namespace Go.Proofs.YtklgjhemcofhhaaDoor
open Go.ChangeShapes Go.WideShapes Go.ChangeAt Go.RowKit

set_option maxRecDepth 100000
set_option linter.unusedVariables false
set_option linter.unusedSimpArgs false

/-- A value that lies in a block of its own, below what grows. -/
def LocX (w : World) (b : Nat) (d : ValD) : Prop := w.heap[b]? = some (.cells (valC d).toArray 53 (0, 0))
theorem LocX.loc {w : World} {b : Nat} {d : ValD} (h : LocX w b d) : Loc w b (valC d) := ⟨_, h⟩
theorem LocX.lt {w : World} {b : Nat} {d : ValD} (h : LocX w b d) : b < w.heap.size := h.loc.lt
theorem LocX.kept {w w' : World} {b : Nat} {d : ValD} (h : LocX w b d) (k : Kept w w') : LocX w' b d := by
  unfold LocX
  rw [k.block b h.lt (by omega)]
  exact h
theorem LocX.but {w w' : World} {b lo hi : Nat} {d : ValD} (h : LocX w b d) (k : But lo hi w w') (ho : b < lo) : LocX w' b d := by
  unfold LocX
  rw [k.block b h.lt (by omega)]
  exact h

theorem val_take {w : World} {a : Option Addr} {n cap k : Nat} {l : List ValD} (h : ValAt w (.slice a n cap) l) (hk : k ≤ n) : ValAt w (.slice a k cap) (l.take k) := by
  obtain ⟨ao, cap', e, hc⟩ := h
  cases e
  refine ⟨a, cap, by rw [List.length_take]; congr 1; omega, fun j x hx => hc j x ?_⟩
  rw [← List.take_append_drop k l, List.flatMap_append, List.getElem?_append_left (List.getElem?_eq_some_iff.1 hx).1]
  exact hx
theorem val_end {w : World} {a : Option Addr} {n c k : Nat} {l : List ValD} (hk : l.length ≤ k) (hn : n = 0) : ValAt w (.slice a n c) (l.drop k) := by
  rw [List.drop_eq_nil_of_le hk]
  subst hn
  exact ⟨a, c, rfl, fun j x hx => by simp at hx⟩
theorem val_len {w : World} {a : Option Addr} {n cap : Nat} {l : List ValD} (h : ValAt w (.slice a n cap) l) : n = l.length := by
  obtain ⟨ao, cap', e, _⟩ := h
  cases e
  rfl
theorem val_drop {w : World} {b o n cap k : Nat} {l : List ValD} (h : ValAt w (.slice (some ⟨b, o, none⟩) n cap) l) (hk : k ≤ n) (a : Option Addr) (ha : k < n → a = some ⟨b, o + k * 3, none⟩) : ValAt w (.slice a (n - k) (cap - k)) (l.drop k) := by
  have hn := val_len h
  obtain ⟨ao, cap', e, hc⟩ := h
  cases e
  refine ⟨a, cap - k, by rw [List.length_drop], fun j x hx => ?_⟩
  have hfl : ((l.take k).flatMap valC).length = k * 3 := by rw [flat_len 3 valC valC_len, List.length_take]; omega
  have hj : (l.flatMap valC)[k * 3 + j]? = some x := by
    rw [← List.take_append_drop k l, List.flatMap_append, List.getElem?_append_right (by omega), hfl, Nat.add_sub_cancel_left]
    exact hx
  obtain ⟨b', o', e2, hc2⟩ := hc _ x hj
  cases e2
  have hlt : k < l.length := by
    rcases Nat.lt_or_ge k l.length with h | h
    · exact h
    · rw [List.drop_eq_nil_of_le h] at hx
      simp at hx
  exact ⟨b, o + k * 3, ha hlt, by rw [Nat.add_assoc]; exact hc2⟩

end Go.Proofs.YtklgjhemcofhhaaDoor
