/-
  The place of a name among rising ones: free of the program.
-/
import Derived.Test.YtklgjhemcofhhaaDoorLeaf22
import Derived.Lib.Strings
import Derived.Lib.Slices
import Derived.Lib.Walk
import Derived.Lib.Bytealg
namespace Go.Proofs.YtklgjhemcofhhaaDoor
open Go.ChangeShapes Go.WideShapes Go.ChangeAt Go.RowKit

set_option maxRecDepth 100000
set_option linter.unusedVariables false
set_option linter.unusedSimpArgs false

theorem cmp_lt : ∀ a b : List UInt8, decide (Lib.compareBytes a b < 0) = Op.bytesLess a b
  | [], [] => rfl
  | [], _ :: _ => rfl
  | _ :: _, [] => rfl
  | a :: x, b :: y => by
    have ih := cmp_lt x y
    unfold Lib.compareBytes Op.bytesLess
    by_cases h1 : a < b
    · simp [h1]
    · by_cases h2 : b < a
      · have h3 : (a == b) = false := by
          rw [beq_eq_false_iff_ne]
          intro e
          subst e
          exact h1 h2
        simp [h1, h2, h3]
      · have h3 : a = b := by
          rw [UInt8.lt_iff_toNat_lt] at h1 h2
          exact UInt8.toNat_inj.1 (by omega)
        subst h3
        simp only [h1, if_false]
        rw [ih]
        simp
theorem cmp_zero : ∀ a b : List UInt8, (Lib.compareBytes a b == 0) = (a == b)
  | [], [] => rfl
  | [], _ :: _ => rfl
  | _ :: _, [] => rfl
  | a :: x, b :: y => by
    have ih := cmp_zero x y
    unfold Lib.compareBytes
    by_cases h1 : a < b
    · have h3 : a ≠ b := fun e => by subst e; exact UInt8.lt_irrefl _ h1
      have h4 : ((a :: x) == (b :: y)) = false := by rw [beq_eq_false_iff_ne]; intro e; cases e; exact h3 rfl
      rw [h4]
      simp [h1]
    · by_cases h2 : b < a
      · have h3 : a ≠ b := fun e => by subst e; exact UInt8.lt_irrefl _ h2
        have h4 : ((a :: x) == (b :: y)) = false := by rw [beq_eq_false_iff_ne]; intro e; cases e; exact h3 rfl
        rw [h4]
        simp [h1, h2]
      · have h3 : a = b := by
          rw [UInt8.lt_iff_toNat_lt] at h1 h2
          exact UInt8.toNat_inj.1 (by omega)
        subst h3
        simp only [h1, if_false]
        rw [ih, Bool.eq_iff_iff]
        simp
/-- Names that rise. -/
def UpR (l : List ValD) : Prop := ∀ j q r, l[j]? = some q → l[j + 1]? = some r → Op.bytesLess q.1.toList r.1.toList = true
theorem up_far {l : List ValD} (h : UpR l) : ∀ (n j : Nat) (q r : ValD), l[j]? = some q → l[j + (n + 1)]? = some r → Op.bytesLess q.1.toList r.1.toList = true
  | 0, j, q, r, hq, hr => h j q r hq hr
  | n + 1, j, q, r, hq, hr => by
    have hl := (List.getElem?_eq_some_iff.1 hr).1
    obtain ⟨m, hm⟩ : ∃ m, l[j + (n + 1)]? = some m := ⟨_, List.getElem?_eq_getElem (by omega)⟩
    exact bl_trans _ _ _ (up_far h n j q m hq hm) (h (j + (n + 1)) m r hm hr)
theorem up_lt {l : List ValD} (h : UpR l) {j i : Nat} {q r : ValD} (hq : l[j]? = some q) (hr : l[i]? = some r) (hij : j < i) : Op.bytesLess q.1.toList r.1.toList = true :=
  up_far h (i - j - 1) j q r hq (by rw [show j + (i - j - 1 + 1) = i by omega]; exact hr)
def posL (s : ByteArray) (l : List ValD) : Nat := (l.takeWhile fun r => Op.bytesLess r.1.toList s.toList).length
def IsC (l : List ValD) (s : ByteArray) (c : Nat) : Prop := c ≤ l.length ∧ ∀ j r, l[j]? = some r → (j < c ↔ Op.bytesLess r.1.toList s.toList = true)
theorem tw_len_le {α : Type} (p : α → Bool) : ∀ l : List α, (l.takeWhile p).length ≤ l.length
  | [] => Nat.le_refl _
  | a :: l => by
    rw [List.takeWhile_cons]
    split
    · have := tw_len_le p l
      simp
      exact this
    · simp
theorem tw_at {α : Type} (p : α → Bool) : ∀ (l : List α) (j : Nat) (a : α), l[j]? = some a → j < (l.takeWhile p).length → p a = true
  | [], j, a, h, _ => by simp at h
  | b :: l, j, a, h, hj => by
    rw [List.takeWhile_cons] at hj
    split at hj
    · rename_i hb
      cases j with
      | zero => simp at h; subst h; exact hb
      | succ j =>
        simp at h hj
        exact tw_at p l j a h hj
    · simp at hj
theorem tw_end {α : Type} (p : α → Bool) : ∀ (l : List α) (a : α), l[(l.takeWhile p).length]? = some a → p a = false
  | [], a, h => by simp at h
  | b :: l, a, h => by
    rw [List.takeWhile_cons] at h
    split at h
    · rename_i hb
      simp at h
      exact tw_end p l a h
    · rename_i hb
      simp at h
      subst h
      simpa using hb
theorem pos_is {l : List ValD} (h : UpR l) (s : ByteArray) : IsC l s (posL s l) := by
  refine ⟨tw_len_le _ _, fun j r hr => ⟨fun hj => tw_at _ l j r hr hj, fun hl => ?_⟩⟩
  rcases Nat.lt_or_ge j (posL s l) with h1 | h1
  · exact h1
  · exfalso
    have hlen := (List.getElem?_eq_some_iff.1 hr).1
    obtain ⟨m, hm⟩ : ∃ m, l[posL s l]? = some m := ⟨_, List.getElem?_eq_getElem (by omega)⟩
    have he := tw_end (fun r : ValD => Op.bytesLess r.1.toList s.toList) l m hm
    rcases Nat.eq_or_lt_of_le h1 with e | e
    · rw [e] at hm
      rw [hm] at hr
      cases hr
      rw [hl] at he
      cases he
    · have := bl_trans _ _ _ (up_lt h hm hr e) hl
      rw [this] at he
      cases he
def foundB (s : ByteArray) (l : List ValD) : Bool := match l[posL s l]? with
  | none => false
  | some r => r.1.toList == s.toList
theorem found_eq {s : ByteArray} {l : List ValD} {r : ValD} (h : l[posL s l]? = some r) : foundB s l = (r.1.toList == s.toList) := by unfold foundB; rw [h]
theorem found_no {s : ByteArray} {l : List ValD} (h : l[posL s l]? = none) : foundB s l = false := by unfold foundB; rw [h]
theorem up_of_keys {m : Nat} {l : List ValD} (h : KeysP m (namesOf l)) : UpR l := fun j q r hq hr => by
  have hl := (List.getElem?_eq_some_iff.1 hr).1
  have h1 := h.2 (j + 1) (by rw [namesOf_len]; exact hl)
  by_cases hn : nameB r.1 = true
  · exact (key_next (namesOf_get hr) hn rfl (namesOf_get hq)).1 h1
  · exact absurd h1 (key_no (namesOf_get hr) (by simpa using hn))

end Go.Proofs.YtklgjhemcofhhaaDoor
