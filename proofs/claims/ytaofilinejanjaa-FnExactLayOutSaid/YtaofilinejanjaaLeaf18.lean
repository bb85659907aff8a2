/-
  Decisions, and whether a number lies between two.
-/
import Derived.Test.YtaofilinejanjaaRows
import Derived.Test.YtaofilinejanjaaBase
import Derived.Deep.QuietTactic
namespace Go.Proofs.Ytaofilinejanjaa
open Go.ChangeShapes Go.WideShapes Go.ChangeAt Go.RowKit

set_option maxRecDepth 100000
set_option linter.unusedVariables false
noncomputable def dec (P : Prop) : Bool := @decide P (Classical.propDecidable P)
theorem dec_yes {P : Prop} (h : P) : dec P = true := by unfold dec; exact @decide_eq_true P (Classical.propDecidable P) h
theorem dec_no {P : Prop} (h : ¬ P) : dec P = false := by unfold dec; exact @decide_eq_false P (Classical.propDecidable P) h
theorem of_dec {P : Prop} (h : dec P = true) : P := by unfold dec at h; exact @of_decide_eq_true P (Classical.propDecidable P) h
theorem of_dec_no {P : Prop} (h : dec P = false) : ¬ P := by unfold dec at h; exact @of_decide_eq_false P (Classical.propDecidable P) h
theorem dec_and (P Q : Prop) : dec (P ∧ Q) = (dec P && dec Q) := by
  by_cases h1 : P <;> by_cases h2 : Q
  · rw [dec_yes h1, dec_yes h2, dec_yes ⟨h1, h2⟩]; rfl
  · rw [dec_yes h1, dec_no h2, dec_no (fun h => h2 h.2)]; rfl
  · rw [dec_no h1, dec_no (fun h => h1 h.1)]; rfl
  · rw [dec_no h1, dec_no (fun h => h1 h.1)]; rfl

theorem ret_intG {a b : Int} (h : a = b) : Ending.returned (.int .i64 a) = .returned (.int .i64 b) := by rw [h]
theorem ret_boolG {a b : Bool} (h : a = b) : Ending.returned (.bool a) = .returned (.bool b) := by rw [h]
theorem all_more {P : Nat → Prop} {k : Nat} (h : ∀ j, j < k → P j) (hk : P k) : ∀ j, j < k + 1 → P j := fun j hj => by
  by_cases e : j = k
  · subst e; exact hk
  · exact h j (by omega)

theorem sInG (x lo hi : Int) (w : World) : Calls Try.prog 31 #[.int .i64 x, .int .i64 lo, .int .i64 hi] w fun e w' => e = .returned (.bool (decide (lo ≤ x ∧ x ≤ hi))) ∧ w' = w := by
  go_enter Try.func31, Try.ntmps31
  go_wp2
  all_goals
    go_ret
    exact ⟨ret_boolG (by first | (rw [Bool.eq_iff_iff]; simp; omega) | (simp; omega)), rfl⟩

theorem iroom (x : Int) (w : World) : Calls Try.prog 36 #[.int .i64 x] w fun e w' => e = .returned (.bool (decide (0 ≤ x ∧ x ≤ 10000))) ∧ w' = w := by
  go_enter Try.func36, Try.ntmps36
  go_wp2
  all_goals
    go_ret
    exact ⟨ret_boolG (by first | (rw [Bool.eq_iff_iff]; simp; omega) | (simp; omega)), rfl⟩

theorem igrow (x : Int) (w : World) : Calls Try.prog 37 #[.int .i64 x] w fun e w' => e = .returned (.bool (decide (0 ≤ x ∧ x ≤ 1000))) ∧ w' = w := by
  go_enter Try.func37, Try.ntmps37
  go_wp2
  all_goals
    go_ret
    exact ⟨ret_boolG (by first | (rw [Bool.eq_iff_iff]; simp; omega) | (simp; omega)), rfl⟩

def absM (x : Int) : Int := if x < 0 then -x else x
theorem sabs (x : Int) (w : World) (h : -1000000000 ≤ x ∧ x ≤ 1000000000) : Calls Try.prog 43 #[.int .i64 x] w fun e w' => e = .returned (.int .i64 (absM x)) ∧ w' = w := by
  obtain ⟨h1, h2⟩ := h
  by_cases h0 : x < 0
  · go_enter Try.func43, Try.ntmps43
    go_wp2
    go_ret
    exact ⟨ret_intG (by unfold absM; split <;> omega), rfl⟩
  · go_enter Try.func43, Try.ntmps43
    go_wp2
    go_ret
    exact ⟨ret_intG (by unfold absM; split <;> omega), rfl⟩

end Go.Proofs.Ytaofilinejanjaa
