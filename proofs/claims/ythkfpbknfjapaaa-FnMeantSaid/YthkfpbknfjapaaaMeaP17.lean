/-
  What presses mean; free of the program.
-/
import Derived.Test.YthkfpbknfjapaaaMapP17
import Derived.Test.YthkfpbknfjapaaaBindP17
import Derived.Test.YthkfpbknfjapaaaHeldP17
namespace Go.Proofs.Ythkfpbknfjapaaa
open Go.ChangeShapes Go.WideShapes Go.ChangeAt Go.RowKit

set_option maxRecDepth 100000
set_option linter.unusedVariables false

def onB (l : List BindD) (h : List Int) (d : BindD) : Bool := allK d.2 h && !(l.any fun o => decide (d.2.length < o.2.length) && allK o.2 h && allK d.2 o.2)
/-- The keys held behind k presses. -/
def prK (es : List PressD) : Nat → List Int
  | 0 => []
  | k + 1 => match es[k]? with
    | some e => pressL (prK es k) e
    | none => prK es k
/-- What one press has meant, k binds looked at. -/
def evK (l : List BindD) (t : Int) (H H' : List Int) : Nat → List MeantD
  | 0 => []
  | k + 1 => match l[k]? with
    | some d => if onB l H' d = onB l H d then evK l t H H' k else evK l t H H' k ++ [(t, d.1, onB l H' d)]
    | none => evK l t H H' k
def meaK (l : List BindD) (es : List PressD) : Nat → List MeantD
  | 0 => []
  | k + 1 => match es[k]? with
    | some e => meaK l es k ++ evK l e.1 (prK es k) (prK es (k + 1)) l.length
    | none => meaK l es k
def MeaOk (l : List BindD) (es : List PressD) : Prop := BindsP l ∧ PrssP es
noncomputable def meaA (l : List BindD) (es : List PressD) : List MeantD × Bool := if dec (MeaOk l es) then (meaK l es es.length, true) else ([], false)
theorem meaA_no {l : List BindD} {es : List PressD} (h : ¬ MeaOk l es) : meaA l es = ([], false) := by unfold meaA; rw [dec_no h]; rfl
theorem meaA_yes {l : List BindD} {es : List PressD} (h : MeaOk l es) : meaA l es = (meaK l es es.length, true) := by unfold meaA; rw [dec_yes h]; rfl
theorem evK_len (l : List BindD) (t : Int) (H H' : List Int) : ∀ k, (evK l t H H' k).length ≤ k
  | 0 => Nat.le_refl _
  | k + 1 => by
    have := evK_len l t H H' k
    unfold evK
    split
    · split
      · omega
      · simp; omega
    · omega
theorem meaK_len {l : List BindD} (hl : l.length ≤ 20) (es : List PressD) : ∀ k, (meaK l es k).length ≤ 20 * k
  | 0 => Nat.le_refl _
  | k + 1 => by
    have := meaK_len hl es k
    unfold meaK
    split
    · rename_i e _
      have h2 := evK_len l e.1 (prK es k) (prK es (k + 1)) l.length
      simp
      omega
    · omega
theorem prK_len (es : List PressD) : ∀ k, (prK es k).length ≤ k
  | 0 => Nat.le_refl _
  | k + 1 => by
    have := prK_len es k
    unfold prK
    split
    · have h2 := press_len (prK es k) (by assumption)
      omega
    · omega
theorem prK_next {es : List PressD} {k : Nat} {e : PressD} (h : es[k]? = some e) : prK es (k + 1) = pressL (prK es k) e := by simp [prK, h]
theorem evK_same {l : List BindD} {t : Int} {H H' : List Int} {k : Nat} {d : BindD} (h : l[k]? = some d) (e : onB l H' d = onB l H d) : evK l t H H' (k + 1) = evK l t H H' k := by simp [evK, h, e]
theorem evK_new {l : List BindD} {t : Int} {H H' : List Int} {k : Nat} {d : BindD} (h : l[k]? = some d) (e : ¬ onB l H' d = onB l H d) : evK l t H H' (k + 1) = evK l t H H' k ++ [(t, d.1, onB l H' d)] := by simp [evK, h, e]
theorem meaK_next {l : List BindD} {es : List PressD} {k : Nat} {e : PressD} (h : es[k]? = some e) : meaK l es (k + 1) = meaK l es k ++ evK l e.1 (prK es k) (prK es (k + 1)) l.length := by simp [meaK, h]
theorem onB_nil {l : List BindD} (hl : BindsP l) {j : Nat} {d : BindD} (h : l[j]? = some d) : onB l [] d = false := by
  have := (hl.2 j (List.getElem?_eq_some_iff.1 h).1 d h).2.1.1.1
  unfold onB allK
  cases hd : d.2 with
  | nil => rw [hd] at this; simp at this
  | cons x r => simp
theorem prs_key {es : List PressD} (h : PrssP es) {k : Nat} {e : PressD} (he : es[k]? = some e) : 0 ≤ e.2.1 ∧ e.2.1 ≤ 99 := (h.2 k (List.getElem?_eq_some_iff.1 he).1 e he).2.1
theorem bnd_key {l : List BindD} (h : BindsP l) {k : Nat} {d : BindD} (hd : l[k]? = some d) : d.2.length ≤ 4 ∧ ∀ x ∈ d.2, 0 ≤ x ∧ x ≤ 99 := by
  have hc := (h.2 k (List.getElem?_eq_some_iff.1 hd).1 d hd).2.1
  refine ⟨hc.1.2, fun x hx => ?_⟩
  obtain ⟨i, hi⟩ := List.mem_iff_getElem?.1 hx
  have := hc.2 i (List.getElem?_eq_some_iff.1 hi).1 x hi
  exact ⟨this.1, Int.lt_add_one_iff.1 this.2.1⟩
theorem onB_any {l : List BindD} {h : List Int} {d : BindD} : onB l h d = (allK d.2 h && !((l.take l.length).any fun o => decide (d.2.length < o.2.length) && allK o.2 h && allK d.2 o.2)) := by rw [List.take_length]; rfl
theorem meaA_len (l : List BindD) (es : List PressD) : (meaA l es).1.length ≤ 4000 := by
  by_cases h : MeaOk l es
  · rw [meaA_yes h]
    have := meaK_len h.1.1 es es.length
    have := h.2.1
    show (meaK l es es.length).length ≤ _
    omega
  · rw [meaA_no h]; simp

end Go.Proofs.Ythkfpbknfjapaaa
