/-
  What FillField answers of a good field, whatever it is: what is found holds and keeps what stood; the first filling that holds; where there is none. Free of the program.
-/
import Derived.Test.YtopakblckajdmaaFillD14
import Derived.Test.YtopakblckajdmaaFillF14
namespace Go.Proofs.Ytopakblckajdmaa
open Go.ChangeShapes Go.WideShapes Go.ChangeAt Go.RowKit

theorem holds_under {r : RulesD} {W H : Int} {l0 m : List Int} (hF : FieldP r.1 (W, H, l0)) (hc : Comp r.1 l0 m) (hh : HoldsP r (W, H, m)) : HoldsP r (W, H, l0) := by
  intro i hi p hp
  dsimp only at hi hp
  have hpd : l0.getD i 0 = p := by rw [List.getD_eq_getElem?_getD, hp]; rfl
  by_cases h0 : p = -1
  · rw [h0]; exact fit_open r _ _
  · have hm : m.getD i 0 = p := by rw [hc.off i hi (by rw [hpd]; exact h0), hpd]
    have hG := hc.fld hF
    have hil : i < m.length := by rw [hc.len]; exact hi
    have hfit := hh i hil p (by rw [get_getD hil, hm])
    refine fit_mono hF hG hi (fun j hj hjl => ?_) hfit
    by_cases e : l0.getD j 0 = -1
    · exact .inl e
    · exact .inr (hc.off j hjl e).symm
/-- What the law asks of what was found. -/
structure FillX (r : RulesD) (f : FieldD) (X : FilledD) : Prop where
  found : X.1 = true → ∃ T, X.2.1 = (f.1, f.2.1, T) ∧ Comp r.1 f.2.2 T ∧ HoldsP r (f.1, f.2.1, T)
  first : (X.1 = true ∨ X.2.2 ≠ 5000) → ∀ n, n < r.1.toNat ^ (openL f.2.2).length → (∀ j, j < n → ¬ HoldsP r (f.1, f.2.1, nthL r.1.toNat f.2.2 j)) → HoldsP r (f.1, f.2.1, nthL r.1.toNat f.2.2 n) → X.1 = true ∧ X.2.1.2.2 = nthL r.1.toNat f.2.2 n
  none : (∀ j, j < r.1.toNat ^ (openL f.2.2).length → ¬ HoldsP r (f.1, f.2.1, nthL r.1.toNat f.2.2 j)) → X.1 = false
theorem fillX {r : RulesD} {f : FieldD} (hg : GoodP r f) : FillX r f (fillA r f).1 := by
  by_cases hh : HoldsP r f
  · rw [fillA_yes hg hh]
    have hx := fill_all hg hh
    generalize hxe : fillR r f.1 f.2.1 (openL f.2.2) f.2.2 0 0 = x at hx
    cases hb : x.1 with
    | true =>
      have e := fillF_yes hxe hb
      show FillX r f (fillF r f)
      rw [e]
      obtain ⟨c1, c2, _⟩ := hx.2.1 hb
      refine ⟨fun _ => ⟨x.2.1, rfl, c1, c2⟩, fun _ n hn hno hy => ⟨rfl, (first_ok hg hx (.inl hb) hn hno hy).2.symm⟩, fun hno => ?_⟩
      rw [none_ok hg hx hno] at hb
      cases hb
    | false =>
      have e := fillF_no hxe hb
      show FillX r f (fillF r f)
      rw [e]
      refine ⟨fun h => (by cases h), fun h5 n hn hno hy => ?_, fun _ => rfl⟩
      have h6 : x.2.2 ≠ 5000 := by
        rcases h5 with h | h
        · cases h
        · dsimp only at h; omega
      have := (first_ok hg hx (.inr h6) hn hno hy).1
      rw [hb] at this
      cases this
  · rw [fillA_not hg hh]
    refine ⟨fun h => (by cases h), fun _ n hn hno hy => ?_, fun _ => rfl⟩
    exact absurd (holds_under (show FieldP r.1 (f.1, f.2.1, f.2.2) from hg.2) (nthL_comp (show FieldP r.1 (f.1, f.2.1, f.2.2) from hg.2) hg.1.1.1) hy) hh
end Go.Proofs.Ytopakblckajdmaa
