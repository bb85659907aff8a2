/-
  Bodies laid off one another: their bounds.
-/
import Derived.Test.YthpjjpgahmkpdaaPush10
namespace Go.Proofs.Ythpjjpgahmkpdaa
open Go.ChangeShapes Go.WideShapes Go.ChangeAt Go.RowKit

set_option maxRecDepth 100000
set_option linter.unusedVariables false

/-- Places within bounds. -/
def Fit (lo hi : Int) (ps : List BodyD) : Prop := ∀ (i : Nat) b, ps[i]? = some b → (lo ≤ b.1 ∧ b.1 ≤ hi) ∧ (1 ≤ b.2.2.2 ∧ b.2.2.2 ≤ 1000)
theorem rightL_bd {lo hi : Int} {ps : List BodyD} (h : Fit lo hi ps) : ∀ (i : Nat) (c : BodyD), (rightL ps)[i]? = some c → (lo ≤ c.1 ∧ c.1 ≤ hi + 2000 * (i : Int)) ∧ (1 ≤ c.2.2.2 ∧ c.2.2.2 ≤ 1000)
  | 0, c, hc => by
    rw [rightL_zero] at hc
    have := h 0 c hc
    omega
  | i + 1, c, hc => by
    have hl : i + 1 < ps.length := by have := (List.getElem?_eq_some_iff.1 hc).1; rw [rightL_len] at this; exact this
    obtain ⟨b, hb⟩ : ∃ b, ps[i + 1]? = some b := ⟨_, List.getElem?_eq_getElem hl⟩
    obtain ⟨a, ha⟩ : ∃ b, (rightL ps)[i]? = some b := ⟨_, List.getElem?_eq_getElem (by rw [rightL_len]; omega)⟩
    have h1 := rightL_bd h i a ha
    have h2 := h (i + 1) b hb
    rw [rightL_get hb ha] at hc
    cases hc
    unfold offL
    dsimp only
    refine ⟨?_, h2.2⟩
    split <;> omega
theorem leftL_bd {lo hi : Int} {ps : List BodyD} (h : Fit lo hi ps) : ∀ (d i : Nat) (c : BodyD), i + d + 1 = ps.length → (leftL ps)[i]? = some c → (lo - 2000 * (d : Int) ≤ c.1 ∧ c.1 ≤ hi) ∧ (1 ≤ c.2.2.2 ∧ c.2.2.2 ≤ 1000)
  | 0, i, c, hd, hc => by
    rw [leftL_last (by omega)] at hc
    have := h i c hc
    omega
  | d + 1, i, c, hd, hc => by
    obtain ⟨b, hb⟩ : ∃ b, ps[i]? = some b := ⟨_, List.getElem?_eq_getElem (by omega)⟩
    obtain ⟨a, ha⟩ : ∃ b, (leftL ps)[i + 1]? = some b := ⟨_, List.getElem?_eq_getElem (by rw [leftL_len]; omega)⟩
    have h1 := leftL_bd h d (i + 1) a (by omega) ha
    have h2 := h i b hb
    rw [leftL_get hb ha] at hc
    cases hc
    unfold offR
    dsimp only
    refine ⟨?_, h2.2⟩
    split <;> omega
theorem fit_right {ps : List BodyD} (h : Fit (-2000000000) 2000000000 ps) (hl : ps.length ≤ 20) : Fit (-2000000000) 2000040000 (rightL ps) := fun i c hc => by
  have hi : i < ps.length := by have := (List.getElem?_eq_some_iff.1 hc).1; rw [rightL_len] at this; exact this
  have := rightL_bd h i c hc
  omega
theorem fit_left {ps : List BodyD} (h : Fit (-2000000000) 2000040000 ps) (hl : ps.length ≤ 20) : Fit (-2000040000) 2000040000 (leftL ps) := fun i c hc => by
  have hi : i < ps.length := by have := (List.getElem?_eq_some_iff.1 hc).1; rw [leftL_len] at this; exact this
  have := leftL_bd h (ps.length - 1 - i) i c (by omega) hc
  omega
theorem mix_down {α : Type} (a b : List α) (i : Nat) (x : α) (h : a.length = b.length) (hx : b[i]? = some x) : (mix a b (i + 1)).set i x = mix a b i := by
  have hi := (List.getElem?_eq_some_iff.1 hx).1
  obtain ⟨y, hy⟩ : ∃ y, a[i]? = some y := ⟨_, List.getElem?_eq_getElem (by omega)⟩
  unfold mix
  rw [take_snoc hy, List.append_assoc, List.set_append_right _ _ (by rw [List.length_take]; omega), List.length_take, Nat.min_eq_left (by omega), Nat.sub_self]
  congr 1
  rw [List.drop_eq_getElem_cons hi]
  have := (List.getElem?_eq_some_iff.1 hx).2
  simp [this]
theorem mix_lo {α : Type} (a b : List α) {i j : Nat} (hi : i < j) (hj : j ≤ a.length) : (mix a b j)[i]? = a[i]? := by
  unfold mix
  rw [List.getElem?_append_left (by rw [List.length_take]; omega), List.getElem?_take_of_lt hi]
theorem mix_hi {α : Type} (a b : List α) {i j : Nat} (hi : j ≤ i) (h : a.length = b.length) (hj : j ≤ a.length) : (mix a b j)[i]? = b[i]? := by
  unfold mix
  rw [List.getElem?_append_right (by rw [List.length_take]; omega), List.length_take, Nat.min_eq_left hj, List.getElem?_drop]
  congr 1
  omega
theorem mix_end {α : Type} (a b : List α) (i : Nat) (ha : a.length = i) (hb : b.length = i) : mix a b 0 = b := mix_zero a b

end Go.Proofs.Ythpjjpgahmkpdaa
