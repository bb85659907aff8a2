/-
  What FalseLetters answers: free of the program.
-/
import Derived.Test.YtgbgnmjgnfocmaaDoorRot19
import Derived.Test.YtgbgnmjgnfocmaaDoorRunQ18
namespace Go.Proofs.YtgbgnmjgnfocmaaDoor
open Go.ChangeShapes Go.WideShapes Go.ChangeAt Go.RowKit

set_option maxRecDepth 100000
set_option linter.unusedVariables false

/-- What is answered: nothing, or the text turned between brackets. -/
def okT (s : ByteArray) : Prop := s.size ≤ 200 ∧ (65533 : Int) ∉ runesF s s.size 0
def outT (l : List UInt8) : ByteArray := ⟨(91 :: (l ++ [93])).toArray⟩
noncomputable def falseA (s : ByteArray) : ByteArray × Bool := if dec (okT s) then (outT (fl s.data.toList), true) else (⟨#[]⟩, false)
theorem falseA_yes {s : ByteArray} (h : okT s) : falseA s = (outT (fl s.data.toList), true) := by unfold falseA; rw [dec_yes h]; rfl
theorem falseA_no {s : ByteArray} (h : ¬ okT s) : falseA s = (⟨#[]⟩, false) := by unfold falseA; rw [dec_no h]; rfl
theorem okT_valid {s : ByteArray} (h : okT s) : Lib.validD s.data.toList = true := by
  have := valid_runes s s.size 0 (by omega) (fun r hr e => h.2 (e ▸ hr))
  simpa using this
theorem fl_len : ∀ (n : Nat) (l : List UInt8), l.length ≤ n → (fl l).length = l.length
  | 0, l, hn => by
    obtain rfl : l = [] := List.eq_nil_of_length_eq_zero (by omega)
    rw [fl_nil]
  | n + 1, [], _ => by rw [fl_nil]
  | n + 1, c :: t, hn => by
    simp only [List.length_cons] at hn
    by_cases hc : c = 123
    · subst hc
      by_cases h5 : (125 : UInt8) ∈ t
      · obtain ⟨b, r, rfl, hb⟩ : ∃ b r, t = b ++ 125 :: r ∧ (125 : UInt8) ∉ b := by
          rcases index_way 125 t with ⟨h1, _⟩ | ⟨a, r, e, h1, _⟩
          · exact absurd h5 h1
          · exact ⟨a, r, e, h1⟩
        simp only [List.length_append, List.length_cons] at hn
        rw [fl_open hb, List.length_cons, List.length_append, List.length_cons, fl_len n r (by omega)]
        simp
      · rw [fl_lone h5, List.length_cons, fl_len n t (by omega), List.length_cons]
    · rw [fl_plain _ hc, List.length_cons, fl_len n t (by omega), List.length_cons]
def strLen : Value → Nat
  | .string t => t.size
  | _ => 0
theorem cat_data (a b : ByteArray) : a ++ b = ⟨(a.data.toList ++ b.data.toList).toArray⟩ := by
  apply ByteArray.ext
  rw [ByteArray.data_append]
  simp

end Go.Proofs.YtgbgnmjgnfocmaaDoor
