/-
  The keys that lack: free of the program.
-/
import Derived.Test.YtgbgnmjgnfocmaaLeaf19
import Derived.Test.YtgbgnmjgnfocmaaLess
namespace Go.Proofs.Ytgbgnmjgnfocmaa
open Go.ChangeShapes Go.WideShapes Go.ChangeAt Go.RowKit

set_option maxRecDepth 100000
set_option linter.unusedVariables false
def ixI : Option Nat → Int
  | some i => i
  | none => -1
theorem ix_pos (o : Option Nat) : decide (0 ≤ ixI o) = o.isSome := by
  cases o with
  | none => rfl
  | some i => simp [ixI]
theorem idx_yes {α : Type} {l : List α} {p : α → Bool} {k : Nat} {d : α} (h : ∀ j d, j < k → l[j]? = some d → p d = false) (hd : l[k]? = some d) (he : p d = true) : l.findIdx? p = some k := by
  rw [List.findIdx?_eq_some_iff_getElem]
  obtain ⟨hk, e⟩ := List.getElem?_eq_some_iff.1 hd
  refine ⟨hk, by rw [e]; exact he, fun j hj => ?_⟩
  have hj2 : j < l.length := by omega
  have := h j l[j] hj (List.getElem?_eq_getElem hj2)
  rw [this]
  simp
theorem idx_no {α : Type} {l : List α} {p : α → Bool} (h : ∀ j d, j < l.length → l[j]? = some d → p d = false) : l.findIdx? p = none := by
  rw [List.findIdx?_eq_none_iff]
  intro d hd
  obtain ⟨j, hj⟩ := List.mem_iff_getElem?.1 hd
  exact h j d (List.getElem?_eq_some_iff.1 hj).1 hj
theorem idx_more {α : Type} {l : List α} {p : α → Bool} {k : Nat} {d : α} (h : ∀ j d, j < k → l[j]? = some d → p d = false) (hd : l[k]? = some d) (he : p d = false) : ∀ j d, j < k + 1 → l[j]? = some d → p d = false := fun j d' hj hd' => by
  by_cases e : j = k
  · subst e
    rw [hd] at hd'
    cases hd'
    exact he
  · exact h j d' (by omega) hd'
theorem idx_any {α : Type} (l : List α) (p : α → Bool) : (l.findIdx? p).isSome = l.any p := by
  rw [List.findIdx?_isSome]
theorem any_take {α : Type} {l : List α} {p : α → Bool} {k : Nat} (h : ∀ j d, j < k → l[j]? = some d → p d = false) : (l.take k).any p = false := by
  rw [List.any_eq_false]
  intro d hd
  obtain ⟨j, hj⟩ := List.mem_iff_getElem?.1 hd
  rw [List.getElem?_take] at hj
  split at hj
  · rename_i hjk
    rw [h j d hjk hj]
    simp
  · cases hj
theorem any_at {α : Type} {l : List α} {p : α → Bool} {i k : Nat} {d : α} (hi : i < k) (hd : l[i]? = some d) (h : p d = true) : (l.take k).any p = true := by
  rw [List.any_eq_true]
  refine ⟨d, ?_, h⟩
  refine List.mem_iff_getElem?.2 ⟨i, ?_⟩
  rw [List.getElem?_take, if_pos hi]
  exact hd

theorem ret_intG {a b : Int} (h : a = b) : Ending.returned (.int .i64 a) = .returned (.int .i64 b) := by rw [h]
/-- Whether an entry is one that is looked for; the keys that lack. -/
def hasE (d e : EntryD) : Bool := decide (e.1 = d.1) && decide (e.2.2 = d.2.2)
def missA (l m : List EntryD) : List ByteArray := (l.filter fun d => !(m.any (hasE d))).map fun d => d.1
theorem miss_snoc (l m : List EntryD) (d : EntryD) : missA (l ++ [d]) m = missA l m ++ (if m.any (hasE d) then [] else [d.1]) := by
  unfold missA
  rw [List.filter_append, List.map_append]
  congr 1
  cases h : m.any (hasE d) <;> simp [List.filter, h]
theorem miss_len (l m : List EntryD) : (missA l m).length ≤ l.length := by
  unfold missA
  rw [List.length_map]
  exact List.length_filter_le _ _
theorem miss_sum {l m : List EntryD} : ∀ p ∈ missA l m, ∃ d ∈ l, p = d.1 := fun p hp => by
  unfold missA at hp
  obtain ⟨d, hd, rfl⟩ := List.mem_map.1 hp
  exact ⟨d, (List.mem_filter.1 hd).1, rfl⟩
def MissOk (l m : List EntryD) : Prop := KeysP 60 (keysOf l) ∧ KeysP 60 (keysOf m)
noncomputable def missR (l m : List EntryD) : List ByteArray := if dec (MissOk l m) then missA l m else []
theorem missR_yes {l m : List EntryD} (h : MissOk l m) : missR l m = missA l m := by unfold missR; rw [dec_yes h]; rfl
theorem missR_no {l m : List EntryD} (h : ¬ MissOk l m) : missR l m = [] := by unfold missR; rw [dec_no h]; rfl
theorem entries_each {l : List EntryD} (h : entriesCost l ≤ 1048576) : l.length ≤ 1048576 ∧ ∀ d ∈ l, d.1.size ≤ 1048576 := by
  refine ⟨by unfold entriesCost at h; omega, fun d hd => ?_⟩
  have := entries_one hd
  unfold entriesOne at this
  omega

end Go.Proofs.Ytgbgnmjgnfocmaa
