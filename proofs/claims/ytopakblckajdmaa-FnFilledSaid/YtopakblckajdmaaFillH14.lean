/-
  The filling that is found is the first that holds, free of the program.
-/
import Derived.Test.YtopakblckajdmaaFillG14
namespace Go.Proofs.Ytopakblckajdmaa
open Go.ChangeShapes Go.WideShapes Go.ChangeAt Go.RowKit

set_option maxRecDepth 100000
set_option linter.unusedVariables false
/-- The k-th open place. -/
def plc (l0 : List Int) (k : Nat) : Nat := ((openL l0).getD k 0).toNat
theorem plc_get {l0 : List Int} {k : Nat} (h : k < (openL l0).length) : (openL l0)[k]? = some (plc l0 k : Int) ∧ plc l0 k < l0.length ∧ l0.getD (plc l0 k) 0 = -1 := by
  obtain ⟨t, e, h1, h2⟩ := cut_nat (List.getElem_mem h)
  have e1 : (openL l0)[k]? = some (t : Int) := by rw [List.getElem?_eq_getElem h]; exact congrArg some e
  have e2 : plc l0 k = t := by unfold plc; rw [List.getD_eq_getElem?_getD, e1]; rfl
  rw [e2]
  exact ⟨e1, h1, of_decide_eq_true h2⟩
theorem plc_lt {l0 : List Int} {j k : Nat} (hjk : j < k) (hk : k < (openL l0).length) : plc l0 j < plc l0 k := by
  have h1 := (plc_get (show j < (openL l0).length by omega)).1
  have h2 := (plc_get hk).1
  have hs := cut_sorted (openB l0) l0.length
  have := List.pairwise_iff_getElem.1 hs j k (by show j < (openL l0).length; omega) hk hjk
  rw [List.getElem?_eq_getElem (by omega)] at h1 h2
  have e1 := Option.some.inj h1
  have e2 := Option.some.inj h2
  change (openL l0)[j] < (openL l0)[k] at this
  rw [e1, e2] at this
  omega
theorem plc_ne {l0 : List Int} {j k : Nat} (hj : j < (openL l0).length) (hk : k < (openL l0).length) (h : j ≠ k) : plc l0 j ≠ plc l0 k := by
  rcases Nat.lt_or_gt_of_ne h with h | h
  · exact Nat.ne_of_lt (plc_lt h hk)
  · exact Nat.ne_of_gt (plc_lt h hj)
theorem plc_of {l0 : List Int} {i : Nat} (hi : i < l0.length) (h : l0.getD i 0 = -1) : ∃ k, k < (openL l0).length ∧ plc l0 k = i := by
  have hm : (i : Int) ∈ openL l0 := cut_mem.2 ⟨hi, decide_eq_true h⟩
  obtain ⟨k, hk, e⟩ := List.mem_iff_getElem.1 hm
  refine ⟨k, hk, ?_⟩
  unfold plc
  rw [List.getD_eq_getElem?_getD, List.getElem?_eq_getElem hk]
  show ((openL l0)[k]).toNat = i
  rw [e]
  rfl
/-- A filling of all open places. -/
structure Comp (s : Int) (l0 m : List Int) : Prop where
  len : m.length = l0.length
  off : ∀ i, i < l0.length → l0.getD i 0 ≠ -1 → m.getD i 0 = l0.getD i 0
  inn : ∀ i, i < l0.length → 0 ≤ m.getD i 0 ∧ m.getD i 0 < s
/-- m is less than l at one of the first k open places, alike ahead of it. -/
def LessB (l0 l m : List Int) (k : Nat) : Prop := ∃ j, j < k ∧ (∀ i, i < j → m.getD (plc l0 i) 0 = l.getD (plc l0 i) 0) ∧ m.getD (plc l0 j) 0 < l.getD (plc l0 j) 0
/-- .. or it is alike at all of them, and not above what stands at the next. -/
def Cov (l0 l m : List Int) (k : Nat) : Prop := LessB l0 l m k ∨ (k < (openL l0).length ∧ (∀ i, i < k → m.getD (plc l0 i) 0 = l.getD (plc l0 i) 0) ∧ m.getD (plc l0 k) 0 ≤ l.getD (plc l0 k) 0)
structure Stand (r : RulesD) (W H : Int) (l0 l : List Int) (k : Nat) : Prop where
  fld : FieldP r.1 (W, H, l)
  len : l.length = l0.length
  off : ∀ i, i < l0.length → l0.getD i 0 ≠ -1 → l.getD i 0 = l0.getD i 0
  beh : ∀ j, k < j → j < (openL l0).length → l.getD (plc l0 j) 0 = -1
  ahd : ∀ j, j < k → j < (openL l0).length → 0 ≤ l.getD (plc l0 j) 0
  hld : HoldsP r (W, H, l)
  cov : ∀ m, Comp r.1 l0 m → HoldsP r (W, H, m) → ¬ Cov l0 l m k
section
variable {r : RulesD} {W H : Int} {l0 l m : List Int} {k : Nat}
theorem Comp.fld (h : Comp r.1 l0 m) (hF : FieldP r.1 (W, H, l0)) : FieldP r.1 (W, H, m) := by
  refine ⟨hF.1, hF.2.1, ?_, fun i hi p hp => ?_⟩
  · have := hF.2.2.1
    dsimp only at this ⊢
    rw [h.len]
    exact this
  · dsimp only at hi hp
    have h1 := h.inn i (by rw [← h.len]; exact hi)
    have h2 := get_getD hi
    rw [hp] at h2
    rw [← Option.some.inj h2] at h1
    omega
/-- A filling that is alike ahead of k stands over what is laid. -/
theorem Stand.under (S : Stand r W H l0 l k) (hc : Comp r.1 l0 m) (hk : k < (openL l0).length) (ha : ∀ i, i < k → m.getD (plc l0 i) 0 = l.getD (plc l0 i) 0) : Under l m (plc l0 k) := by
  intro j hj hjl
  rw [S.len] at hjl
  by_cases h0 : l0.getD j 0 = -1
  · obtain ⟨q, hq, rfl⟩ := plc_of hjl h0
    by_cases hqk : q < k
    · exact .inr (ha q hqk).symm
    · by_cases hqe : q = k
      · exact absurd (by rw [hqe]) hj
      · exact .inl (S.beh q (by omega) hq)
  · exact .inr (by rw [S.off j hjl h0, hc.off j hjl h0])
theorem Stand.fits (S : Stand r W H l0 l k) (hF : FieldP r.1 (W, H, l0)) (hc : Comp r.1 l0 m) (hh : HoldsP r (W, H, m)) (hk : k < (openL l0).length) (ha : ∀ i, i < k → m.getD (plc l0 i) 0 = l.getD (plc l0 i) 0) : FitP r (W, H, l) (plc l0 k) (m.getD (plc l0 k) 0) := by
  have hp := plc_get hk
  have hml : plc l0 k < m.length := by rw [hc.len]; exact hp.2.1
  exact fit_mono S.fld (hc.fld hF) (by rw [S.len]; exact hp.2.1) (S.under hc hk ha) (hh _ hml _ (get_getD hml))
/-- Where no greater sort fits, no filling that is alike ahead of k holds. -/
theorem Stand.nof (S : Stand r W H l0 l k) (hF : FieldP r.1 (W, H, l0)) (hk : k < (openL l0).length) (hx : nextT r (W, H, l) (plc l0 k) (l.getD (plc l0 k) 0) = none) (hc : Comp r.1 l0 m) (hh : HoldsP r (W, H, m)) (ha : ∀ i, i < k → m.getD (plc l0 i) 0 = l.getD (plc l0 i) 0) : False := by
  by_cases hle : m.getD (plc l0 k) 0 ≤ l.getD (plc l0 k) 0
  · exact S.cov m hc hh (.inr ⟨hk, ha, hle⟩)
  · have hf := S.fits hF hc hh hk ha
    have hb := hc.inn _ (plc_get hk).2.1
    obtain ⟨t, ht⟩ : ∃ t : Nat, m.getD (plc l0 k) 0 = (t : Int) := ⟨_, (Int.toNat_of_nonneg hb.1).symm⟩
    rw [ht] at hf hle hb
    unfold nextT at hx
    have h1 := List.find?_eq_none.1 hx t (by simp; omega)
    have h2 : fitB r (W, H, l) (plc l0 k) t = true := dec_yes hf
    exact h1 (by rw [h2, decide_eq_true (show l.getD (plc l0 k) 0 < (t : Int) by omega)]; rfl)
theorem next_fit {f : FieldD} {n o : Int} {t : Nat} (h : nextT r f n o = some t) : FitP r f n t ∧ ∀ j : Nat, j < t → o < (j : Int) → fitB r f n j = false := by
  unfold nextT at h
  rw [List.find?_range_eq_some] at h
  have h1 := h.1
  simp at h1
  refine ⟨of_dec h1.2, fun j hj ho => ?_⟩
  have := h.2.2 j hj
  simp at this
  rcases this with h | h
  · omega
  · exact h
theorem Stand.start (hF : FieldP r.1 (W, H, l0)) (hh : HoldsP r (W, H, l0)) : Stand r W H l0 l0 0 := by
  refine ⟨hF, rfl, fun _ _ _ => rfl, fun j _ hj => (plc_get hj).2.2, fun j hj => by omega, hh, ?_⟩
  rintro m hc hm (⟨j, hj, _⟩ | ⟨hk, _, h⟩)
  · omega
  · have h1 := (plc_get hk).2
    have h2 := (hc.inn _ h1.1).1
    rw [h1.2] at h
    omega
theorem Stand.set_at (S : Stand r W H l0 l k) (hk : k < (openL l0).length) {j : Nat} (hj : j < (openL l0).length) (v : Int) : (l.set (plc l0 k) v).getD (plc l0 j) 0 = if j = k then v else l.getD (plc l0 j) 0 := by
  rw [getD_set (by rw [S.len]; exact (plc_get hk).2.1)]
  by_cases h : j = k
  · subst h; rw [if_pos rfl, if_pos rfl]
  · rw [if_neg (fun e => plc_ne hj hk h e.symm), if_neg h]
theorem Stand.set_off (S : Stand r W H l0 l k) (hk : k < (openL l0).length) (v : Int) : ∀ i, i < l0.length → l0.getD i 0 ≠ -1 → (l.set (plc l0 k) v).getD i 0 = l0.getD i 0 := by
  intro i hi h0
  rw [getD_set (by rw [S.len]; exact (plc_get hk).2.1), if_neg, S.off i hi h0]
  intro e
  rw [← e] at h0
  exact h0 (plc_get hk).2.2
theorem Stand.lay (S : Stand r W H l0 l k) (hF : FieldP r.1 (W, H, l0)) (hk : k < (openL l0).length) {t : Nat} (hx : nextT r (W, H, l) (plc l0 k) (l.getD (plc l0 k) 0) = some t) : Stand r W H l0 (l.set (plc l0 k) t) (k + 1) := by
  have ht := next_lt hx
  obtain ⟨hf, hmin⟩ := next_fit hx
  have hpl : plc l0 k < l.length := by rw [S.len]; exact (plc_get hk).2.1
  refine ⟨field_set S.fld ⟨by omega, ht.1⟩, by rw [List.length_set]; exact S.len, S.set_off hk _, fun j hj hjn => ?_, fun j hj hjn => ?_, holds_set S.fld ⟨by omega, ht.1⟩ hpl S.hld hf, ?_⟩
  · rw [S.set_at hk hjn, if_neg (by omega)]
    exact S.beh j (by omega) hjn
  · rw [S.set_at hk hjn]
    split
    · omega
    · exact S.ahd j (by omega) hjn
  · rintro m hc hm (⟨j, hj, hag, hlt⟩ | ⟨hk1, hag, hle⟩)
    · have hag' : ∀ i, i < j → m.getD (plc l0 i) 0 = l.getD (plc l0 i) 0 := fun i hi => by
        have := hag i hi
        rw [S.set_at hk (by omega), if_neg (by omega)] at this
        exact this
      rw [S.set_at hk (by omega)] at hlt
      by_cases hjk : j = k
      · subst hjk
        rw [if_pos rfl] at hlt
        by_cases hle : m.getD (plc l0 j) 0 ≤ l.getD (plc l0 j) 0
        · exact S.cov m hc hm (.inr ⟨hk, hag', hle⟩)
        · have hfm := S.fits hF hc hm hk hag'
          have hb := hc.inn _ (plc_get hk).2.1
          obtain ⟨q, hq⟩ : ∃ q : Nat, m.getD (plc l0 j) 0 = (q : Int) := ⟨_, (Int.toNat_of_nonneg hb.1).symm⟩
          rw [hq] at hfm hle hlt
          have h2 : fitB r (W, H, l) (plc l0 j) q = true := dec_yes hfm
          rw [hmin q (by omega) (by omega)] at h2
          cases h2
      · rw [if_neg hjk] at hlt
        exact S.cov m hc hm (.inl ⟨j, by omega, hag', hlt⟩)
    · rw [S.set_at hk hk1, if_neg (by omega), S.beh (k + 1) (by omega) hk1] at hle
      have := (hc.inn _ (plc_get hk1).2.1).1
      omega
theorem Stand.back (S : Stand r W H l0 l k) (hF : FieldP r.1 (W, H, l0)) (hk : k < (openL l0).length) (hk0 : k ≠ 0) (hr : 1 ≤ r.1) (hx : nextT r (W, H, l) (plc l0 k) (l.getD (plc l0 k) 0) = none) : Stand r W H l0 (l.set (plc l0 k) (-1)) (k - 1) := by
  have hpl : plc l0 k < l.length := by rw [S.len]; exact (plc_get hk).2.1
  refine ⟨field_set S.fld ⟨by omega, by omega⟩, by rw [List.length_set]; exact S.len, S.set_off hk _, fun j hj hjn => ?_, fun j hj hjn => ?_, holds_set S.fld ⟨by omega, by omega⟩ hpl S.hld (fit_open _ _ _), ?_⟩
  · rw [S.set_at hk hjn]
    split
    · rfl
    · exact S.beh j (by omega) hjn
  · rw [S.set_at hk hjn, if_neg (by omega)]
    exact S.ahd j (by omega) hjn
  · have hsame : ∀ i, i < k → (l.set (plc l0 k) (-1)).getD (plc l0 i) 0 = l.getD (plc l0 i) 0 := fun i hi => by rw [S.set_at hk (by omega), if_neg (by omega)]
    rintro m hc hm (⟨j, hj, hag, hlt⟩ | ⟨hk1, hag, hle⟩)
    · rw [hsame j (by omega)] at hlt
      exact S.cov m hc hm (.inl ⟨j, by omega, fun i hi => by rw [hag i hi, hsame i (by omega)], hlt⟩)
    · rw [hsame (k - 1) (by omega)] at hle
      have hag' : ∀ i, i < k - 1 → m.getD (plc l0 i) 0 = l.getD (plc l0 i) 0 := fun i hi => by rw [hag i hi, hsame i (by omega)]
      by_cases he : m.getD (plc l0 (k - 1)) 0 = l.getD (plc l0 (k - 1)) 0
      · refine S.nof hF hk hx hc hm fun i hi => ?_
        by_cases hik : i = k - 1
        · rw [hik]; exact he
        · exact hag' i (by omega)
      · exact S.cov m hc hm (.inl ⟨k - 1, by omega, hag', by omega⟩)
/-- What a filling comes to. -/
def FillOk (r : RulesD) (W H : Int) (l0 : List Int) (x : Bool × List Int × Nat) : Prop :=
  x.2.2 ≤ 5000 ∧ (x.1 = true → Comp r.1 l0 x.2.1 ∧ HoldsP r (W, H, x.2.1) ∧ ∀ m, Comp r.1 l0 m → HoldsP r (W, H, m) → ¬ LessB l0 x.2.1 m (openL l0).length) ∧ (x.1 = false → x.2.2 ≠ 5000 → ∀ m, Comp r.1 l0 m → ¬ HoldsP r (W, H, m))
theorem fill_ok (hF : FieldP r.1 (W, H, l0)) (hr : 1 ≤ r.1) : ∀ (N : Nat) (l : List Int) (k tr : Nat), N = 2 * (5000 - tr) + k → tr ≤ 5000 → k ≤ (openL l0).length → Stand r W H l0 l k → FillOk r W H l0 (fillR r W H (openL l0) l k tr) := by
  intro N
  induction N with
  | zero =>
    intro l k tr hN htr hk S
    by_cases hkn : k < (openL l0).length
    · have hp := plc_get hkn
      have ho : l[plc l0 k]? = some (l.getD (plc l0 k) 0) := get_getD (by rw [S.len]; exact hp.2.1)
      cases hx : nextT r (W, H, l) (plc l0 k) (l.getD (plc l0 k) 0) with
      | none =>
        rw [fillR_stuck hkn hp.1 ho hx (by omega)]
        exact ⟨htr, (fun h => by cases h), fun _ _ m hc hm => S.nof hF hkn hx hc hm (fun i hi => by omega)⟩
      | some t =>
        rw [fillR_full hkn hp.1 ho hx (by omega)]
        exact ⟨htr, (fun h => by cases h), fun _ h => by dsimp only at h; omega⟩
    · rw [fillR_end hkn]
      exact ⟨htr, fun _ => ⟨⟨S.len, S.off, fun i hi => by
        have h1 := S.fld.2.2.2 i (by rw [show (W, H, l).2.2 = l from rfl, S.len]; exact hi) _ (get_getD (by rw [S.len]; exact hi))
        refine ⟨?_, h1.2⟩
        by_cases h0 : l0.getD i 0 = -1
        · obtain ⟨q, hq, rfl⟩ := plc_of hi h0
          exact S.ahd q (by omega) hq
        · rw [S.off i hi h0] at h1 ⊢
          omega⟩, S.hld, fun m hc hm hlt => S.cov m hc hm (.inl (by
          obtain ⟨j, hj, h⟩ := hlt
          exact ⟨j, by omega, h⟩))⟩, (fun h => by cases h)⟩
  | succ N ih =>
    intro l k tr hN htr hk S
    by_cases hkn : k < (openL l0).length
    · have hp := plc_get hkn
      have ho : l[plc l0 k]? = some (l.getD (plc l0 k) 0) := get_getD (by rw [S.len]; exact hp.2.1)
      cases hx : nextT r (W, H, l) (plc l0 k) (l.getD (plc l0 k) 0) with
      | none =>
        by_cases hk0 : k = 0
        · rw [fillR_stuck hkn hp.1 ho hx hk0]
          exact ⟨htr, (fun h => by cases h), fun _ _ m hc hm => S.nof hF hkn hx hc hm (fun i hi => by omega)⟩
        · rw [fillR_back hkn hp.1 ho hx hk0]
          exact ih _ _ _ (by omega) htr (by omega) (S.back hF hkn hk0 hr hx)
      | some t =>
        by_cases ht5 : tr = 5000
        · rw [fillR_full hkn hp.1 ho hx ht5]
          exact ⟨htr, (fun h => by cases h), fun _ h => by dsimp only at h; omega⟩
        · rw [fillR_lay hkn hp.1 ho hx (by omega)]
          exact ih _ _ _ (by omega) (by omega) (by omega) (S.lay hF hkn hx)
    · rw [fillR_end hkn]
      exact ⟨htr, fun _ => ⟨⟨S.len, S.off, fun i hi => by
        have h1 := S.fld.2.2.2 i (by rw [show (W, H, l).2.2 = l from rfl, S.len]; exact hi) _ (get_getD (by rw [S.len]; exact hi))
        refine ⟨?_, h1.2⟩
        by_cases h0 : l0.getD i 0 = -1
        · obtain ⟨q, hq, rfl⟩ := plc_of hi h0
          exact S.ahd q (by omega) hq
        · rw [S.off i hi h0] at h1 ⊢
          omega⟩, S.hld, fun m hc hm hlt => S.cov m hc hm (.inl (by
          obtain ⟨j, hj, h⟩ := hlt
          exact ⟨j, by omega, h⟩))⟩, (fun h => by cases h)⟩
/-- The whole filling of a good field that holds. -/
theorem fill_all {f : FieldD} (hg : GoodP r f) (hh : HoldsP r f) : FillOk r f.1 f.2.1 f.2.2 (fillR r f.1 f.2.1 (openL f.2.2) f.2.2 0 0) :=
  fill_ok hg.2 hg.1.1.1 _ _ _ _ rfl (by omega) (by omega) (Stand.start hg.2 hh)
end

end Go.Proofs.Ytopakblckajdmaa
