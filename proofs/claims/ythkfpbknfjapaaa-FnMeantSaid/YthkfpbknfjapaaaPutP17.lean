/-
  Rising lists of keys; free of the program.
-/
import Derived.Test.YthkfpbknfjapaaaPure17
namespace Go.Proofs.Ythkfpbknfjapaaa
open Go.ChangeShapes Go.WideShapes Go.ChangeAt Go.RowKit

set_option maxRecDepth 100000
set_option linter.unusedVariables false

/-- A number laid into a rising list. -/
def putL : List Int → Int → List Int
  | [], x => [x]
  | y :: r, x => if y < x then y :: putL r x else if y = x then y :: r else x :: y :: r
/-- How many of the first are below x. -/
def lowN : List Int → Int → Nat
  | [], _ => 0
  | y :: r, x => if y < x then lowN r x + 1 else 0
theorem low_le (x : Int) : ∀ l : List Int, lowN l x ≤ l.length
  | [] => Nat.le_refl _
  | y :: r => by
    have := low_le x r
    unfold lowN
    split <;> simp <;> omega
theorem low_of (x : Int) : ∀ (l : List Int) (k : Nat), (∀ j y, j < k → l[j]? = some y → y < x) → k ≤ l.length → (∀ y, l[k]? = some y → ¬ y < x) → lowN l x = k
  | [], k, _, hk, _ => by simp at hk; rw [hk]; rfl
  | y :: r, 0, _, _, h => by
    have := h y rfl
    unfold lowN
    rw [if_neg this]
  | y :: r, k + 1, hb, hk, h => by
    have h1 := hb 0 y (by omega) rfl
    unfold lowN
    rw [if_pos h1, low_of x r k (fun j z hj hz => hb (j + 1) z (by omega) (by simpa using hz)) (by simpa using hk) (fun z hz => h z (by simpa using hz))]
theorem put_there (x : Int) : ∀ (l : List Int), l[lowN l x]? = some x → putL l x = l
  | [], h => by simp at h
  | y :: r, h => by
    unfold lowN at h
    unfold putL
    split
    · rename_i h1
      rw [if_pos h1] at h
      rw [put_there x r (by simpa using h)]
    · rename_i h1
      rw [if_neg h1] at h
      have : y = x := by simpa using h
      rw [if_pos this]
theorem put_new (x : Int) : ∀ (l : List Int), l[lowN l x]? ≠ some x → putL l x = l.take (lowN l x) ++ [x] ++ l.drop (lowN l x)
  | [], _ => rfl
  | y :: r, h => by
    unfold lowN at h ⊢
    unfold putL
    split
    · rename_i h1
      rw [if_pos h1] at h
      rw [put_new x r (by simpa using h)]
      simp
    · rename_i h1
      rw [if_neg h1] at h
      have : ¬ y = x := by simpa using h
      rw [if_neg this]
      rfl
theorem put_len (x : Int) : ∀ l : List Int, (putL l x).length ≤ l.length + 1
  | [] => by simp [putL]
  | y :: r => by
    have := put_len x r
    unfold putL
    split
    · simp; omega
    · split <;> simp
/-- The keys that are down behind a press. -/
def pressL (h : List Int) (d : PressD) : List Int := if d.2.2 then putL h d.2.1 else h.filter fun k => k != d.2.1
theorem press_len (h : List Int) (d : PressD) : (pressL h d).length ≤ h.length + 1 := by
  unfold pressL
  split
  · exact put_len _ _
  · have := List.length_filter_le (fun k => k != d.2.1) h
    omega

end Go.Proofs.Ythkfpbknfjapaaa
