/-
  What holds of values between changes: free of the program.
-/
import Derived.Test.YtklgjhemcofhhaaDoorMigP22
namespace Go.Proofs.YtklgjhemcofhhaaDoor
open Go.ChangeShapes Go.WideShapes Go.ChangeAt Go.RowKit

set_option maxRecDepth 100000
set_option linter.unusedVariables false
set_option linter.unusedSimpArgs false

theorem found_at {l : List ValD} (h : UpR l) (s : ByteArray) : (foundB s l = true ∧ atI l s = (posL s l : Nat) ∧ posL s l < l.length) ∨ (foundB s l = false ∧ atI l s = -1) := by
  have hc := pos_is h s
  have ne_of : ∀ (j : Nat) (q : ValD), l[j]? = some q → j < posL s l → (q.1.toList == s.toList) = false := fun j q hq hj => by
    have h1 := (hc.2 j q hq).1 hj
    rw [beq_eq_false_iff_ne]
    intro e
    rw [e, bl_irr] at h1
    cases h1
  cases hf : foundB s l with
  | true =>
    left
    cases hp : l[posL s l]? with
    | none => rw [found_no hp] at hf; cases hf
    | some r =>
      rw [found_eq hp] at hf
      exact ⟨rfl, at_hit (fun j q hj hq => ne_of j q hq hj) hp hf, (List.getElem?_eq_some_iff.1 hp).1⟩
  | false =>
    right
    refine ⟨rfl, at_none fun j q hq => ?_⟩
    rcases Nat.lt_trichotomy j (posL s l) with hj | hj | hj
    · exact ne_of j q hq hj
    · subst hj
      rw [found_eq hq] at hf
      exact hf
    · rw [beq_eq_false_iff_ne]
      intro e
      have hlen := (List.getElem?_eq_some_iff.1 hq).1
      obtain ⟨r, hr⟩ : ∃ r, l[posL s l]? = some r := ⟨_, List.getElem?_eq_getElem (by omega)⟩
      have h1 := up_lt h hr hq hj
      rw [e] at h1
      have := (hc.2 _ r hr).2 h1
      omega
def UpN (ns : List ByteArray) : Prop := ns.Pairwise fun a b => Op.bytesLess a.toList b.toList = true
theorem up_iff (l : List ValD) : UpR l ↔ UpN (namesOf l) := by
  unfold UpN
  rw [List.pairwise_iff_getElem]
  constructor
  · intro h i j hi hj hij
    rw [namesOf_len] at hi hj
    have h1 := up_lt h (List.getElem?_eq_getElem hi) (List.getElem?_eq_getElem hj) hij
    simpa [namesOf] using h1
  · intro h j q r hq hr
    have h1 := List.getElem?_eq_some_iff.1 hq
    have h2 := List.getElem?_eq_some_iff.1 hr
    have := h j (j + 1) (by rw [namesOf_len]; exact h1.1) (by rw [namesOf_len]; exact h2.1) (by omega)
    simp only [namesOf, List.getElem_map, h1.2, h2.2] at this
    exact this
theorem names_app (a b : List ValD) : namesOf (a ++ b) = namesOf a ++ namesOf b := by simp [namesOf]
theorem up_drop {l : List ValD} (h : UpR l) (k : Nat) : UpR (dropL l k) := by
  rw [up_iff] at h ⊢
  unfold UpN at h ⊢
  refine h.sublist ?_
  unfold namesOf dropL
  refine List.Sublist.map _ ?_
  have h1 : (l.drop (k + 1)).Sublist (l.drop k) := by
    rw [← List.drop_drop]
    exact List.drop_sublist _ _
  have h2 := List.Sublist.append (List.Sublist.refl (l.take k)) h1
  rwa [List.take_append_drop] at h2
theorem at_drop {l : List ValD} {s : ByteArray} (h : atI l s = -1) (k : Nat) : atI (dropL l k) s = -1 := by
  refine at_none fun j q hq => ?_
  have hm : q ∈ l := by
    have := List.mem_of_getElem? hq
    unfold dropL at this
    rcases List.mem_append.1 this with h | h
    · exact List.mem_of_mem_take h
    · exact List.mem_of_mem_drop h
  rcases at_cases l s with ⟨_, h0⟩ | ⟨k', d, h1, _, _⟩
  · obtain ⟨i, hi⟩ := List.mem_iff_getElem?.1 hm
    exact h0 i q hi
  · rw [h] at h1
    omega
theorem up_put {l : List ValD} (h : UpR l) {x : ValD} (hx : atI l x.1 = -1) : UpR (putL l x) := by
  have hc := pos_is h x.1
  have hne : ∀ q ∈ l, (q.1.toList == x.1.toList) = false := fun q hq => by
    rcases at_cases l x.1 with ⟨_, h0⟩ | ⟨k', d, h1, _, _⟩
    · obtain ⟨i, hi⟩ := List.mem_iff_getElem?.1 hq
      exact h0 i q hi
    · rw [hx] at h1
      omega
  have hA : ∀ q ∈ l.take (posL x.1 l), Op.bytesLess q.1.toList x.1.toList = true := fun q hq => by
    obtain ⟨j, hj⟩ := List.mem_iff_getElem?.1 hq
    have hj2 := (List.getElem?_eq_some_iff.1 hj).1
    rw [List.length_take] at hj2
    rw [List.getElem?_take_of_lt (by omega)] at hj
    exact (hc.2 j q hj).1 (by omega)
  have hB : ∀ q ∈ l.drop (posL x.1 l), Op.bytesLess x.1.toList q.1.toList = true := fun q hq => by
    obtain ⟨j, hj⟩ := List.mem_iff_getElem?.1 hq
    rw [List.getElem?_drop] at hj
    have h1 : Op.bytesLess q.1.toList x.1.toList = false := by
      cases hb : Op.bytesLess q.1.toList x.1.toList with
      | false => rfl
      | true => have := (hc.2 _ q hj).2 hb; omega
    have h2 := hne q (List.mem_of_getElem? hj)
    rw [beq_eq_false_iff_ne] at h2
    exact bl_tri _ _ h1 h2
  rw [up_iff] at h ⊢
  unfold UpN at h ⊢
  have hs : namesOf l = namesOf (l.take (posL x.1 l)) ++ namesOf (l.drop (posL x.1 l)) := by rw [← names_app, List.take_append_drop]
  rw [hs, List.pairwise_append] at h
  unfold putL
  rw [names_app, names_app, List.append_assoc, List.pairwise_append]
  have hmem : ∀ (m : List ValD) (b : ByteArray), b ∈ namesOf m → ∃ q ∈ m, q.1 = b := fun m b hb => by
    obtain ⟨q, hq, e⟩ := List.mem_map.1 hb
    exact ⟨q, hq, e⟩
  refine ⟨h.1, ?_, fun a ha b hb => ?_⟩
  · show List.Pairwise _ (x.1 :: namesOf (l.drop (posL x.1 l)))
    rw [List.pairwise_cons]
    refine ⟨fun b hb => ?_, h.2.1⟩
    obtain ⟨q, hq, rfl⟩ := hmem _ _ hb
    exact hB q hq
  · obtain ⟨q, hq, rfl⟩ := hmem _ _ ha
    have hb2 : b = x.1 ∨ b ∈ namesOf (l.drop (posL x.1 l)) := by simpa [namesOf] using hb
    rcases hb2 with rfl | hb2
    · exact hA q hq
    · exact h.2.2 _ ha _ hb2
theorem up_set {l : List ValD} (h : UpR l) {k : Nat} {d : ValD} (hd : l[k]? = some d) (m : Int) (t : ByteArray) : UpR (l.set k (d.1, m, t)) := by
  rw [up_iff] at h ⊢
  have e : namesOf (l.set k (d.1, m, t)) = namesOf l := by
    obtain ⟨hk, he⟩ := List.getElem?_eq_some_iff.1 hd
    unfold namesOf
    rw [List.map_set]
    refine List.ext_getElem? fun j => ?_
    rw [List.getElem?_set]
    split
    · rename_i hkj
      subst hkj
      simp [hk, he]
    · rfl
  rw [e]
  exact h
def InR (n : Int) : Prop := -9223372036854775808 ≤ n ∧ n ≤ 9223372036854775807
/-- What holds of values between changes. -/
def InvL (l : List ValD) : Prop := UpR l ∧ l.length ≤ 30 ∧ ∀ d ∈ l, InR d.2.1
theorem turn_range {kd b n m : Int} (h : turnL kd b n = some m) : -1000000000000000 ≤ m ∧ m ≤ 1000000000000000 := by
  unfold turnL at h
  split at h
  · split at h
    · cases h; assumption
    · cases h
  · split at h
    · cases h; assumption
    · cases h
theorem inv_drop {l : List ValD} (h : InvL l) (k : Nat) : InvL (dropL l k) := by
  refine ⟨up_drop h.1 k, ?_, fun d hd => h.2.2 d ?_⟩
  · have := h.2.1
    unfold dropL
    rw [List.length_append, List.length_take, List.length_drop]
    omega
  · unfold dropL at hd
    rcases List.mem_append.1 hd with h | h
    · exact List.mem_of_mem_take h
    · exact List.mem_of_mem_drop h
theorem inv_put {l : List ValD} (h : InvL l) {x : ValD} (hx : atI l x.1 = -1) (hl : l.length < 30) (hr : InR x.2.1) : InvL (putL l x) := by
  refine ⟨up_put h.1 hx, by rw [put_len]; omega, fun d hd => ?_⟩
  unfold putL at hd
  rcases List.mem_append.1 hd with h1 | h1
  · rcases List.mem_append.1 h1 with h1 | h1
    · exact h.2.2 d (List.mem_of_mem_take h1)
    · simp at h1; subst h1; exact hr
  · exact h.2.2 d (List.mem_of_mem_drop h1)
theorem inv_set {l : List ValD} (h : InvL l) {k : Nat} {d : ValD} (hd : l[k]? = some d) {m : Int} (hm : InR m) : InvL (l.set k (d.1, m, d.2.2)) := by
  refine ⟨up_set h.1 hd m d.2.2, by rw [List.length_set]; exact h.2.1, fun q hq => ?_⟩
  rcases List.mem_or_eq_of_mem_set hq with h1 | h1
  · exact h.2.2 q h1
  · subst h1; exact hm
/-- A change keeps what holds of values. -/
theorem inv_step {l m : List ValD} {c : ChgD} (h : InvL l) (hb : -1000000 ≤ c.2.2.2.2 ∧ c.2.2.2.2 ≤ 1000000) (hs : stepV l c = some m) : InvL m := by
  unfold stepV at hs
  have hb2 : InR c.2.2.2.2 := by unfold InR; omega
  split at hs
  · split at hs
    · rename_i h1
      split at hs
      · rename_i h2
        cases hs
        rw [put_len] at h2
        have ha : atI l c.2.2.1 = -1 := by
          rcases at_cases l c.2.2.1 with ⟨e, _⟩ | ⟨k, d, e, _, _⟩
          · exact e
          · omega
        exact inv_put h ha (by omega) hb2
      · cases hs
    · cases hs; exact h
  · split at hs
    · cases hs; exact h
    · rename_i d hd
      split at hs
      · cases hs; exact h
      · split at hs
        · split at hs
          · cases hs
          · rename_i h0 h1 h2
            cases hs
            have ha : atI l c.2.2.2.1 = -1 := by
              rcases at_cases l c.2.2.2.1 with ⟨e, _⟩ | ⟨k, d, e, _, _⟩
              · exact e
              · omega
            have hlen := drop_len (List.getElem?_eq_some_iff.1 hd).1
            have hl := h.2.1
            exact inv_put (inv_drop h _) (at_drop ha _) (by omega) (h.2.2 d (List.mem_of_getElem? hd))
        · split at hs
          · cases hs; exact inv_drop h _
          · cases ht : turnL c.2.1 c.2.2.2.2 d.2.1 with
            | none => rw [ht] at hs; cases hs
            | some q =>
              rw [ht] at hs
              cases hs
              have := turn_range ht
              exact inv_set h hd (by unfold InR; omega)

end Go.Proofs.YtklgjhemcofhhaaDoor
