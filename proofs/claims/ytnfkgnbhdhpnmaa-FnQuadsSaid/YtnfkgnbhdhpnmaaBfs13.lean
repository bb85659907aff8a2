/-
  The search by steps, free of the program.
-/
import Derived.Test.YtnfkgnbhdhpnmaaBase
namespace Go.Proofs.Ytnfkgnbhdhpnmaa
open Go.ChangeShapes Go.WideShapes Go.ChangeAt Go.RowKit

set_option linter.unusedVariables false
/-- A walk of so many steps. -/
inductive Walk (F : Nat → Prop) (E : Nat → Nat → Prop) : Nat → Nat → Prop
  | base {c : Nat} : F c → Walk F E 0 c
  | step {m c k : Nat} : Walk F E m c → E c k → Walk F E (m + 1) k
def sv (s : List Int) (c : Nat) : Int := s.getD c (-1)
theorem sv_get {s : List Int} {c : Nat} (h : c < s.length) : s[c]? = some (sv s c) := by
  unfold sv
  rw [List.getD_eq_getElem?_getD, List.getElem?_eq_getElem h]
  rfl
theorem sv_set (s : List Int) (k : Nat) (v : Int) (c : Nat) (h : k < s.length) : sv (s.set k v) c = if c = k then v else sv s c := by
  unfold sv
  rw [List.getD_eq_getElem?_getD, List.getElem?_set, List.getD_eq_getElem?_getD]
  by_cases e : k = c
  · subst e; simp [h]
  · rw [if_neg e, if_neg (fun h => e h.symm)]
/-- The steps along the first ways. -/
def EW (nxt : Nat → Nat → Option Nat) (ent : Nat → Bool) (j : Nat) (c k : Nat) : Prop := ∃ w, w < j ∧ nxt c w = some k ∧ ent k = true
theorem EW_zero {nxt : Nat → Nat → Option Nat} {ent : Nat → Bool} {c k : Nat} (h : EW nxt ent 0 c k) : False := by obtain ⟨w, h, _⟩ := h; omega
theorem EW_succ {nxt : Nat → Nat → Option Nat} {ent : Nat → Bool} {j c k : Nat} (h : EW nxt ent (j + 1) c k) : EW nxt ent j c k ∨ (nxt c j = some k ∧ ent k = true) := by
  obtain ⟨w, h1, h2⟩ := h
  rcases Nat.lt_succ_iff_lt_or_eq.1 h1 with h | rfl
  · exact .inl ⟨w, h, h2⟩
  · exact .inr h2
/-- The search on its way: s the steps, r the cells reached, in their order, the first dn of them done, of the next one the first j ways. -/
structure Inv (F : Nat → Prop) (nxt : Nat → Nat → Option Nat) (ent : Nat → Bool) (N : Nat) (s : List Int) (r : List Nat) (dn j : Nat) : Prop where
  len : s.length = N
  rng : ∀ c ∈ r, c < N
  nod : r.Nodup
  mem : ∀ c, c < N → (sv s c ≠ -1 ↔ c ∈ r)
  val : ∀ c ∈ r, ∃ m : Nat, sv s c = (m : Int) ∧ Walk F (EW nxt ent 6) m c
  fst : ∀ c, F c → c ∈ r ∧ sv s c = 0
  ord : ∀ (i i' c c' : Nat), i ≤ i' → r[i]? = some c → r[i']? = some c' → sv s c ≤ sv s c'
  near : ∀ (c c' : Nat), r[dn]? = some c → c' ∈ r → sv s c' ≤ sv s c + 1
  don : ∀ (i c k : Nat), i < dn → r[i]? = some c → EW nxt ent 6 c k → k ∈ r ∧ sv s k ≤ sv s c + 1
  mid : ∀ (c k : Nat), r[dn]? = some c → EW nxt ent j c k → k ∈ r ∧ sv s k ≤ sv s c + 1
  dle : dn ≤ r.length
  bnd : ∀ c ∈ r, sv s c ≤ (r.length : Int)
section
variable {F : Nat → Prop} {nxt : Nat → Nat → Option Nat} {ent : Nat → Bool} {N : Nat} {s : List Int} {r : List Nat} {dn j : Nat}
theorem nodup_len : ∀ (n : Nat) (r : List Nat), r.Nodup → (∀ x ∈ r, x < n) → r.length ≤ n
  | 0, r, _, h => by
    cases r with
    | nil => simp
    | cons a r => exact absurd (h a (by simp)) (by omega)
  | n + 1, r, hr, h => by
    by_cases hm : n ∈ r
    · have h1 := nodup_len n (r.erase n) (hr.erase n) (fun x hx => by
        have := (hr.mem_erase_iff).1 hx
        have := h x this.2
        omega)
      rw [List.length_erase_of_mem hm] at h1
      omega
    · have h1 := nodup_len n r hr (fun x hx => by
        have := h x hx
        have : x ≠ n := fun e => hm (e ▸ hx)
        omega)
      omega
theorem Inv.small (h : Inv F nxt ent N s r dn j) : r.length ≤ N := nodup_len _ _ h.nod h.rng
/-- Nothing is new along this way. -/
theorem Inv.skip (h : Inv F nxt ent N s r dn j) (hj : j < 6) {c : Nat} (hc : r[dn]? = some c) (hn : ∀ k, nxt c j = some k → k < N) (hs : ∀ k, nxt c j = some k → ent k = true → sv s k ≠ -1) : Inv F nxt ent N s r dn (j + 1) where
  len := h.len
  rng := h.rng
  nod := h.nod
  mem := h.mem
  val := h.val
  fst := h.fst
  ord := h.ord
  near := h.near
  don := h.don
  dle := h.dle
  bnd := h.bnd
  mid := fun c2 k hc2 he => by
    rw [hc] at hc2
    cases hc2
    rcases EW_succ he with he | ⟨e1, e2⟩
    · exact h.mid c k hc he
    · have hk := (h.mem k (hn k e1)).1 (hs k e1 e2)
      exact ⟨hk, h.near c k hc hk⟩
/-- A new cell along this way. -/
theorem Inv.take (h : Inv F nxt ent N s r dn j) (hj : j < 6) {c k : Nat} (hc : r[dn]? = some c) (h1 : nxt c j = some k) (hk : k < N) (he : ent k = true) (hs : sv s k = -1) : Inv F nxt ent N (s.set k (sv s c + 1)) (r ++ [k]) dn (j + 1) := by
  have hcr : c ∈ r := List.mem_of_getElem? hc
  have hkr : k ∉ r := fun hh => (h.mem k hk).2 hh hs
  have hkl : k < s.length := by rw [h.len]; exact hk
  have hdl : dn < r.length := (List.getElem?_eq_some_iff.1 hc).1
  have hv : ∀ x, x ∈ r → sv (s.set k (sv s c + 1)) x = sv s x := fun x hx => by
    rw [sv_set _ _ _ _ hkl, if_neg (fun e : x = k => hkr (e ▸ hx))]
  have hvk : sv (s.set k (sv s c + 1)) k = sv s c + 1 := by rw [sv_set _ _ _ _ hkl, if_pos rfl]
  have hval := h.val c hcr
  obtain ⟨m, hm, hw⟩ := hval
  have hcd : (r ++ [k])[dn]? = some c := by rw [List.getElem?_append_left hdl]; exact hc
  exact {
    len := by simp [h.len]
    rng := fun x hx => by
      rcases List.mem_append.1 hx with hx | hx
      · exact h.rng x hx
      · simp at hx; subst hx; exact hk
    nod := by
      rw [List.nodup_append]
      refine ⟨h.nod, by simp, ?_⟩
      intro x hx y hy
      simp at hy
      subst hy
      intro e
      subst e
      exact hkr hx
    mem := fun x hx => by
      rw [sv_set _ _ _ _ hkl]
      by_cases e : x = k
      · subst e
        simp only [if_true]
        exact ⟨fun _ => by simp, fun _ => by omega⟩
      · rw [if_neg e, h.mem x hx]
        simp [e]
    val := fun x hx => by
      rcases List.mem_append.1 hx with hx | hx
      · rw [hv x hx]; exact h.val x hx
      · simp at hx
        subst hx
        exact ⟨m + 1, by rw [hvk, hm]; omega, .step hw ⟨j, hj, h1, he⟩⟩
    fst := fun x hx => by
      obtain ⟨h2, h3⟩ := h.fst x hx
      exact ⟨List.mem_append.2 (.inl h2), by rw [hv x h2]; exact h3⟩
    ord := fun i i' x x' hi hx hx' => by
      by_cases e1 : i' < r.length
      · rw [List.getElem?_append_left e1] at hx'
        rw [List.getElem?_append_left (by omega)] at hx
        rw [hv x (List.mem_of_getElem? hx), hv x' (List.mem_of_getElem? hx')]
        exact h.ord i i' x x' hi hx hx'
      · have hx'' : x' = k := by
          rw [List.getElem?_append_right (by omega)] at hx'
          have := List.mem_of_getElem? hx'
          simpa using this
        subst hx''
        by_cases e2 : i < r.length
        · rw [List.getElem?_append_left e2] at hx
          have hxr := List.mem_of_getElem? hx
          rw [hv x hxr, hvk]
          exact h.near c x hc hxr
        · rw [List.getElem?_append_right (by omega)] at hx
          have := List.mem_of_getElem? hx
          simp at this
          subst this
          exact Int.le_refl _
    near := fun x x' hx hx' => by
      rw [hcd] at hx
      cases hx
      rw [hv c hcr]
      rcases List.mem_append.1 hx' with hx' | hx'
      · rw [hv x' hx']; exact h.near c x' hc hx'
      · simp at hx'
        subst hx'
        rw [hvk]
        exact Int.le_refl _
    don := fun i x y hi hx he' => by
      rw [List.getElem?_append_left (by omega)] at hx
      obtain ⟨h2, h3⟩ := h.don i x y hi hx he'
      rw [hv y h2, hv x (List.mem_of_getElem? hx)]
      exact ⟨List.mem_append.2 (.inl h2), h3⟩
    mid := fun x y hx he' => by
      rw [hcd] at hx
      cases hx
      rw [hv c hcr]
      rcases EW_succ he' with he' | ⟨e1, e2⟩
      · obtain ⟨h2, h3⟩ := h.mid c y hc he'
        rw [hv y h2]
        exact ⟨List.mem_append.2 (.inl h2), h3⟩
      · rw [h1] at e1
        cases e1
        rw [hvk]
        exact ⟨by simp, Int.le_refl _⟩
    dle := by simp; omega
    bnd := fun x hx => by
      have hc2 := h.bnd c hcr
      simp only [List.length_append, List.length_singleton]
      rcases List.mem_append.1 hx with hx | hx
      · rw [hv x hx]; have := h.bnd x hx; omega
      · simp at hx; subst hx; rw [hvk]; omega }
/-- All ways of a cell are done. -/
theorem Inv.next (h : Inv F nxt ent N s r dn 6) (hd : dn < r.length) : Inv F nxt ent N s r (dn + 1) 0 where
  len := h.len
  rng := h.rng
  nod := h.nod
  mem := h.mem
  val := h.val
  fst := h.fst
  ord := h.ord
  near := fun c c' hc hc' => by
    have h0 : r[dn]? = some r[dn] := List.getElem?_eq_getElem hd
    have h1 := h.near _ c' h0 hc'
    have h2 := h.ord dn (dn + 1) _ c (by omega) h0 hc
    omega
  don := fun i c k hi hc he => by
    rcases Nat.lt_succ_iff_lt_or_eq.1 hi with hi | rfl
    · exact h.don i c k hi hc he
    · exact h.mid c k hc he
  mid := fun c k _ he => (EW_zero he).elim
  dle := hd
  bnd := h.bnd
/-- How few steps lead to a cell. -/
def IsDist (F : Nat → Prop) (E : Nat → Nat → Prop) (v : Int) (c : Nat) : Prop := (v = -1 ∧ ∀ m, ¬ Walk F E m c) ∨ ∃ m : Nat, v = (m : Int) ∧ Walk F E m c ∧ ∀ m', Walk F E m' c → m ≤ m'
theorem Inv.fin (h : Inv F nxt ent N s r r.length j) : ∀ c, c < N → IsDist F (EW nxt ent 6) (sv s c) c := by
  have key : ∀ m c, Walk F (EW nxt ent 6) m c → c ∈ r ∧ sv s c ≤ (m : Int) := by
    intro m c hw
    induction hw with
    | base hf => obtain ⟨h1, h2⟩ := h.fst _ hf; exact ⟨h1, by rw [h2]; omega⟩
    | step hw he ih =>
      obtain ⟨i, hi⟩ := List.getElem?_of_mem ih.1
      have hil := (List.getElem?_eq_some_iff.1 hi).1
      obtain ⟨h1, h2⟩ := h.don i _ _ hil hi he
      exact ⟨h1, by have := ih.2; omega⟩
  intro c hc
  by_cases hr : c ∈ r
  · obtain ⟨m, hm, hw⟩ := h.val c hr
    exact .inr ⟨m, hm, hw, fun m' hw' => by have := (key m' c hw').2; omega⟩
  · refine .inl ⟨?_, fun m hw => hr (key m c hw).1⟩
    rcases Decidable.em (sv s c = -1) with e | e
    · exact e
    · exact absurd ((h.mem c hc).1 e) hr
end

end Go.Proofs.Ytnfkgnbhdhpnmaa
