/-
  Rules as plain data, and how they lie in memory.
-/
import Derived.Test.YtopakblckajdmaaLL
namespace Go.Proofs.Ytopakblckajdmaa
open Go.ChangeShapes Go.WideShapes Go.ChangeAt Go.RowKit

/-- Rules: how many sorts, and for each the sorts that may stand to its right, and below it. -/
abbrev RulesD := Int × List (List Int) × List (List Int)
def RulesAt (w : World) (v : Value) (c : RulesD) : Prop := ∃ s t, v = .agg #[.int .i64 c.1, s, t] ∧ LLAt w s c.2.1 ∧ LLAt w t c.2.2
def RulesO (w : World) (lo hi : Nat) (v : Value) (c : RulesD) : Prop := ∃ s t mid, v = .agg #[.int .i64 c.1, s, t] ∧ LLO w lo mid s c.2.1 ∧ LLO w mid hi t c.2.2 ∧ lo ≤ mid ∧ mid ≤ hi
section
variable {w w' : World} {v : Value} {c : RulesD} {lo hi lo' hi' : Nat}
theorem RulesAt.kept (h : RulesAt w v c) (k : Kept w w') : RulesAt w' v c := by obtain ⟨s, t, e, h1, h2⟩ := h; exact ⟨s, t, e, h1.kept k, h2.kept k⟩
theorem RulesO.kept (h : RulesO w lo hi v c) (k : Kept w w') : RulesO w' lo hi v c := by obtain ⟨s, t, m, e, h1, h2, h3⟩ := h; exact ⟨s, t, m, e, h1.kept k, h2.kept k, h3⟩
theorem RulesO.but (h : RulesO w lo hi v c) (k : But lo' hi' w w') (ho : hi ≤ lo' ∨ hi' ≤ lo) : RulesO w' lo hi v c := by obtain ⟨s, t, m, e, h1, h2, h3⟩ := h; exact ⟨s, t, m, e, h1.but k (by omega), h2.but k (by omega), h3⟩
theorem RulesO.at (h : RulesO w lo hi v c) : RulesAt w v c := by obtain ⟨s, t, m, e, h1, h2, h3⟩ := h; exact ⟨s, t, e, h1.at, h2.at⟩
theorem RulesAt.form (h : RulesAt w v c) : ∃ a1 c1 a2 c2, v = .agg #[.int .i64 c.1, .slice a1 c.2.1.length c1, .slice a2 c.2.2.length c2] := by
  obtain ⟨s, t, e, h1, h2⟩ := h
  obtain ⟨a1, c1, rfl⟩ := h1.form
  obtain ⟨a2, c2, rfl⟩ := h2.form
  exact ⟨a1, c1, a2, c2, e⟩
theorem RulesO.form (h : RulesO w lo hi v c) : ∃ a1 c1 a2 c2, v = .agg #[.int .i64 c.1, .slice a1 c.2.1.length c1, .slice a2 c.2.2.length c2] := h.at.form
theorem RulesAt.parts {x : Int} {s t : Value} (h : RulesAt w (.agg #[.int .i64 x, s, t]) c) : LLAt w s c.2.1 ∧ LLAt w t c.2.2 := by
  obtain ⟨s, t, e, h1, h2⟩ := h
  cases e
  exact ⟨h1, h2⟩
end
def rulesCost (c : RulesD) : Nat := lLCost c.2.1 + lLCost c.2.2
def RulesFit (c : RulesD) : Prop := c.2.1.length ≤ 9223372036854775807 ∧ LLFit c.2.1 ∧ c.2.2.length ≤ 9223372036854775807 ∧ LLFit c.2.2
theorem lLCost_len (fs : List (List Int)) : fs.length ≤ lLCost fs ∧ ∀ p ∈ fs, p.length ≤ lLCost fs := by
  refine ⟨by unfold lLCost; omega, fun p hp => ?_⟩
  have : p.length ≤ lLSum fs := lLSum_le hp
  unfold lLCost
  omega

end Go.Proofs.Ytopakblckajdmaa
