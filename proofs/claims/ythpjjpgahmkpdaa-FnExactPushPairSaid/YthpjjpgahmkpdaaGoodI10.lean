/-
  Whether a line is good, as the program says it.
-/
import Derived.Test.YthpjjpgahmkpdaaLineI10
namespace Go.Proofs.Ythpjjpgahmkpdaa
open Go.ChangeShapes Go.WideShapes Go.ChangeAt Go.RowKit

set_option maxRecDepth 100000
set_option linter.unusedVariables false

theorem line_yes {ps : List BodyD} {u u' : World} {e : Ending} (h : LineP ps) (k : LineR ps u e u') : (∃ v', e = .returned (.tuple #[v', .bool true]) ∧ SolidO u' u.heap.size u'.heap.size v' ps) ∧ Kept u u' := by
  unfold LineR at k
  rw [if_pos h] at k
  exact k
theorem line_no {ps : List BodyD} {u u' : World} {e : Ending} (h : ¬ LineP ps) (k : LineR ps u e u') : e = .returned (.tuple #[.slice none 0 0, .bool false]) ∧ Kept u u' := by
  unfold LineR at k
  rw [if_neg h] at k
  exact k
set_option maxHeartbeats 2000000 in
theorem igoodline (ps : List BodyD) (v : Value) (w : World) (hv : BodyAt w v ps) (hn : ps.length ≤ 1048576) :
    Calls Try.prog 24 #[v] w fun e w' => e = .returned (.bool (decide (LineP ps))) ∧ Kept w w' := by
  obtain ⟨ao, cap, hsl⟩ := row_nil hv
  subst hsl
  by_cases h : LineP ps
  · rw [decide_eq_true h]
    go_enter Try.func24, Try.ntmps24
    repeat (first | (go_at_call 55; refine (lineOf ps _ _ hv hn).mono ?_; rintro e w1 hL; obtain ⟨⟨v1, rfl, o1⟩, k1⟩ := line_yes h hL; obtain ⟨ao1, cap1, hfm⟩ := o1.form; subst hfm; clear hL; dsimp only) | go_values | go_skip | go_guarded | go_step | go_upon)
    go_ret
    exact ⟨rfl, k1⟩
  · rw [decide_eq_false h]
    go_enter Try.func24, Try.ntmps24
    repeat (first | (go_at_call 55; refine (lineOf ps _ _ hv hn).mono ?_; rintro e w1 hL; obtain ⟨rfl, k1⟩ := line_no h hL; clear hL; dsimp only) | go_values | go_skip | go_guarded | go_step | go_upon)
    go_ret
    exact ⟨rfl, k1⟩

end Go.Proofs.Ythpjjpgahmkpdaa
