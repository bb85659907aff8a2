/-
  Rounds of pushes keep a line's order: free of the program.
-/
import Derived.Test.YthpjjpgahmkpdaaRows10
namespace Go.Proofs.Ythpjjpgahmkpdaa
open Go.ChangeShapes Go.WideShapes Go.ChangeAt Go.RowKit

set_option maxRecDepth 100000
set_option linter.unusedVariables false
set_option linter.unusedSimpArgs false

theorem roundO_way {ps : List BodyD} {bo : Int} (h : Way ps) : ∀ {k : Nat} {qs : List BodyD}, roundO ps bo k = some qs → Way qs ∧ qs.length = ps.length
  | 0, qs, e => by simp [roundO] at e; subst e; exact ⟨h, rfl⟩
  | k + 1, qs, e => by
    cases hr : roundO ps bo k with
    | none => simp [roundO, hr] at e
    | some rs =>
      obtain ⟨h1, h2⟩ := roundO_way h hr
      simp only [roundO, hr] at e
      split at e
      · rename_i hin
        cases e
        refine ⟨?_, by rw [pushAt_len]; exact h2⟩
        cases ha : rs[k]? with
        | none => unfold pushAt; rw [ha]; exact h1
        | some a =>
          cases hb : rs[k + 1]? with
          | none => unfold pushAt; rw [ha, hb]; exact h1
          | some b => exact h1.push ha hb (hin a b ha hb).1 (hin a b ha hb).2
      · cases e
theorem roundsO_way {ps : List BodyD} {bo : Int} (h : Way ps) : ∀ {k : Nat} {qs : List BodyD}, roundsO ps bo k = some qs → Way qs ∧ qs.length = ps.length
  | 0, qs, e => by simp [roundsO] at e; subst e; exact ⟨h, rfl⟩
  | k + 1, qs, e => by
    cases hr : roundsO ps bo k with
    | none => simp [roundsO, hr] at e
    | some rs =>
      obtain ⟨h1, h2⟩ := roundsO_way h hr
      simp only [roundsO, hr] at e
      obtain ⟨h3, h4⟩ := roundO_way h1 e
      exact ⟨h3, h4.trans h2⟩
/-- What PushLine answers. -/
def PushR (o : Option (List BodyD)) (u : World) (e : Ending) (u' : World) : Prop := ∃ v', e = .returned (.tuple #[v', .bool o.isSome]) ∧ BodyO u' u.heap.size u'.heap.size v' (lst o) ∧ Kept u u'
theorem pushR_none {u u' : World} {e : Ending} (h : e = .returned (.tuple #[.slice none 0 0, .bool false])) (k : Kept u u') : PushR none u e u' := ⟨_, h, body_nil _ _ _, k⟩
theorem pushA_len {ps : List BodyD} {bo ro : Int} {qs : List BodyD} (h : pushA ps bo ro = some qs) : qs.length ≤ 20 ∧ Way qs ∧ qs.length = ps.length := by
  unfold pushA at h
  split at h
  · rename_i hc
    obtain ⟨h1, h2⟩ := roundsO_way hc.1.way h
    exact ⟨by rw [h2]; exact hc.1.1, h1, h2⟩
  · cases h
theorem lst_len (ps : List BodyD) (bo ro : Int) : (lst (pushA ps bo ro)).length ≤ 100000000 := by
  cases h : pushA ps bo ro with
  | none => simp [lst]
  | some qs => have := (pushA_len h).1; simp [lst]; omega

end Go.Proofs.Ythpjjpgahmkpdaa
