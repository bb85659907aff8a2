/-
  Light by its levels, free of the program.
-/
import Derived.Test.YtnfkgnbhdhpnmaaBfs13
namespace Go.Proofs.Ytnfkgnbhdhpnmaa
open Go.ChangeShapes Go.WideShapes Go.ChangeAt Go.RowKit

set_option linter.unusedVariables false
section
variable (F : Nat → Prop) (E : Nat → Nat → Prop)
/-- Light by the first walk from so many steps on that leads to a cell. -/
noncomputable def lv (c : Nat) : Nat → Nat → Int
  | 0, _ => 0
  | f + 1, m => @ite _ (Walk F E m c) (Classical.propDecidable _) (15 - (m : Int)) (lv c f (m + 1))
noncomputable def lightV (c : Nat) : Int := lv F E c 15 0
variable {F E}
theorem lv_none {c : Nat} : ∀ (f m : Nat), (∀ m', m ≤ m' → m' < m + f → ¬ Walk F E m' c) → lv F E c f m = 0
  | 0, _, _ => rfl
  | f + 1, m, h => by
    unfold lv
    rw [if_neg (h m (Nat.le_refl _) (by omega))]
    exact lv_none f (m + 1) (fun m' h1 h2 => h m' (by omega) (by omega))
theorem lv_some {c k : Nat} (hk : Walk F E k c) : ∀ (f m : Nat), m ≤ k → k < m + f → (∀ m', m' < k → ¬ Walk F E m' c) → lv F E c f m = 15 - (k : Int)
  | 0, m, h1, h2, _ => by omega
  | f + 1, m, h1, h2, h => by
    unfold lv
    by_cases e : m = k
    · subst e; rw [if_pos hk]
    · rw [if_neg (h m (by omega))]
      exact lv_some hk f (m + 1) (by omega) (by omega) h
/-- The least walk below a bound, or none. -/
theorem least (c : Nat) : ∀ (f : Nat), (∀ m, m < f → ¬ Walk F E m c) ∨ ∃ k, k < f ∧ Walk F E k c ∧ ∀ m, m < k → ¬ Walk F E m c
  | 0 => .inl (fun m h => by omega)
  | f + 1 => by
    rcases least c f with h | ⟨k, h1, h2⟩
    · by_cases hw : Walk F E f c
      · exact .inr ⟨f, by omega, hw, h⟩
      · refine .inl (fun m hm => ?_)
        rcases Nat.lt_succ_iff_lt_or_eq.1 hm with h3 | rfl
        · exact h m h3
        · exact hw
    · exact .inr ⟨k, by omega, h2⟩
theorem light_dist {v : Int} {c : Nat} (h : IsDist F E v c) : (v = -1 ∧ lightV F E c = 0) ∨ (0 ≤ v ∧ lightV F E c = max 0 (15 - v)) := by
  rcases h with ⟨rfl, h⟩ | ⟨m, rfl, h1, h2⟩
  · exact .inl ⟨rfl, lv_none _ _ (fun m' _ _ => h m')⟩
  · refine .inr ⟨by omega, ?_⟩
    by_cases hm : m < 15
    · have := lv_some (F := F) (E := E) h1 15 0 (by omega) (by omega) (fun m' hm' hw => by have := h2 m' hw; omega)
      unfold lightV
      rw [this]
      omega
    · have := lv_none (F := F) (E := E) (c := c) 15 0 (fun m' _ hm' hw => by have := h2 m' hw; omega)
      unfold lightV
      rw [this]
      omega
/-- Light as far as t steps. -/
noncomputable def lt (F : Nat → Prop) (E : Nat → Nat → Prop) (t c : Nat) : Int := lv F E c (t + 1) 0
theorem lt_val (t c : Nat) (ht : t ≤ 14) : ((∀ m, m ≤ t → ¬ Walk F E m c) ∧ lt F E t c = 0) ∨ ∃ k, k ≤ t ∧ Walk F E k c ∧ (∀ m, m < k → ¬ Walk F E m c) ∧ lt F E t c = 15 - (k : Int) := by
  rcases least (F := F) (E := E) c (t + 1) with h | ⟨k, h1, h2, h3⟩
  · exact .inl ⟨fun m hm => h m (by omega), lv_none _ _ (fun m' _ h2 => h m' (by omega))⟩
  · exact .inr ⟨k, by omega, h2, h3, lv_some h2 _ _ (by omega) (by omega) h3⟩
/-- Light on its way from t steps to one more: the cells below n are done, of n the first j ways. -/
structure Mid (F : Nat → Prop) (nxt : Nat → Nat → Option Nat) (ent : Nat → Bool) (N t n j : Nat) (o : List Int) : Prop where
  len : o.length = N
  old : ∀ c, c < N → (∃ m, m ≤ t ∧ Walk F (EW nxt ent 6) m c) → sv o c = lt F (EW nxt ent 6) t c
  new : ∀ c, c < N → (∀ m, m ≤ t → ¬ Walk F (EW nxt ent 6) m c) → sv o c = 0 ∨ (sv o c = 14 - (t : Int) ∧ Walk F (EW nxt ent 6) (t + 1) c)
  don : ∀ c k, c < n → sv o c = 15 - (t : Int) → EW nxt ent 6 c k → sv o k ≠ 0
  now : ∀ k, sv o n = 15 - (t : Int) → EW nxt ent j n k → sv o k ≠ 0
section
variable {nxt : Nat → Nat → Option Nat} {ent : Nat → Bool} {N t n j : Nat} {o : List Int}
theorem Mid.start (ho : o.length = N) (h : ∀ c, c < N → sv o c = lt F (EW nxt ent 6) t c) (ht : t ≤ 13) : Mid F nxt ent N t 0 0 o where
  len := ho
  old := fun c hc _ => h c hc
  new := fun c hc hn => by
    rcases lt_val (F := F) (E := EW nxt ent 6) t c (by omega) with ⟨_, h2⟩ | ⟨k, h1, h2, _⟩
    · exact .inl (by rw [h c hc, h2])
    · exact absurd h2 (hn k h1)
  don := fun c k hc => by omega
  now := fun k _ he => (EW_zero he).elim
theorem Mid.at (h : Mid F nxt ent N t n j o) (ht : t ≤ 13) {c : Nat} (hc : c < N) : (sv o c = 15 - (t : Int) ∧ Walk F (EW nxt ent 6) t c) ∨ (sv o c ≠ 15 - (t : Int) ∧ ((15 - (t : Int) < sv o c) ∨ sv o c = 0 ∨ sv o c = 14 - (t : Int))) := by
  rcases lt_val (F := F) (E := EW nxt ent 6) t c (by omega) with ⟨h1, h2⟩ | ⟨k, h1, h2, h3, h4⟩
  · rcases h.new c hc h1 with h5 | ⟨h5, _⟩
    · exact .inr ⟨by omega, by omega⟩
    · exact .inr ⟨by omega, by omega⟩
  · have h5 := h.old c hc ⟨k, h1, h2⟩
    rw [h4] at h5
    by_cases e : k = t
    · subst e; exact .inl ⟨h5, h2⟩
    · exact .inr ⟨by omega, by omega⟩
/-- A cell that is not of this light. -/
theorem Mid.pass (h : Mid F nxt ent N t n 0 o) (hn : sv o n ≠ 15 - (t : Int)) : Mid F nxt ent N t (n + 1) 0 o where
  len := h.len
  old := h.old
  new := h.new
  don := fun c k hc hs he => by
    rcases Nat.lt_succ_iff_lt_or_eq.1 hc with hc | rfl
    · exact h.don c k hc hs he
    · exact absurd hs hn
  now := fun k _ he => (EW_zero he).elim
theorem Mid.next (h : Mid F nxt ent N t n 6 o) : Mid F nxt ent N t (n + 1) 0 o where
  len := h.len
  old := h.old
  new := h.new
  don := fun c k hc hs he => by
    rcases Nat.lt_succ_iff_lt_or_eq.1 hc with hc | rfl
    · exact h.don c k hc hs he
    · exact h.now k hs he
  now := fun k _ he => (EW_zero he).elim
/-- Nothing is lit along this way. -/
theorem Mid.skip (h : Mid F nxt ent N t n j o) (hs : ∀ k, nxt n j = some k → ent k = true → sv o k ≠ 0) : Mid F nxt ent N t n (j + 1) o where
  len := h.len
  old := h.old
  new := h.new
  don := h.don
  now := fun k hv he => by
    rcases EW_succ he with he | ⟨e1, e2⟩
    · exact h.now k hv he
    · exact hs k e1 e2
/-- A cell is lit along this way. -/
theorem Mid.take (h : Mid F nxt ent N t n j o) (ht : t ≤ 13) (hn : n < N) (hl : sv o n = 15 - (t : Int)) (hj : j < 6) {k : Nat} (h1 : nxt n j = some k) (he : ent k = true) (hk : k < N) (hs : sv o k < 14 - (t : Int)) : Mid F nxt ent N t n (j + 1) (o.set k (14 - (t : Int))) := by
  have hkl : k < o.length := by rw [h.len]; exact hk
  have hnt : ∀ m, m ≤ t → ¬ Walk F (EW nxt ent 6) m k := by
    intro m hm hw
    rcases lt_val (F := F) (E := EW nxt ent 6) t k (by omega) with ⟨h2, _⟩ | ⟨k', h2, h3, _, h5⟩
    · exact h2 m hm hw
    · have := h.old k hk ⟨k', h2, h3⟩; omega
  have hwn : Walk F (EW nxt ent 6) t n := by
    rcases h.at ht hn with ⟨_, h2⟩ | ⟨h2, _⟩
    · exact h2
    · exact absurd hl h2
  have hwk : Walk F (EW nxt ent 6) (t + 1) k := .step hwn ⟨j, hj, h1, he⟩
  have hv : ∀ c, c ≠ k → sv (o.set k (14 - (t : Int))) c = sv o c := fun c hc => by rw [sv_set _ _ _ _ hkl, if_neg hc]
  have hvk : sv (o.set k (14 - (t : Int))) k = 14 - (t : Int) := by rw [sv_set _ _ _ _ hkl, if_pos rfl]
  exact {
    len := by simp [h.len]
    old := fun c hc hw => by
      rw [hv c (fun e => by subst e; obtain ⟨m, h2, h3⟩ := hw; exact hnt m h2 h3)]
      exact h.old c hc hw
    new := fun c hc hw => by
      by_cases e : c = k
      · subst e; exact .inr ⟨hvk, hwk⟩
      · rw [hv c e]; exact h.new c hc hw
    don := fun c k' hc hs' he' => by
      have hck : c ≠ k := fun e => by subst e; rw [hvk] at hs'; omega
      rw [hv c hck] at hs'
      by_cases e : k' = k
      · subst e; rw [hvk]; omega
      · rw [hv k' e]; exact h.don c k' hc hs' he'
    now := fun k' hs' he' => by
      have hck : n ≠ k := fun e => by subst e; rw [hvk] at hs'; omega
      rw [hv n hck] at hs'
      by_cases e : k' = k
      · subst e; rw [hvk]; omega
      · rw [hv k' e]
        rcases EW_succ he' with he' | ⟨e1, e2⟩
        · exact h.now k' hs' he'
        · rw [h1] at e1; cases e1; exact absurd rfl e }
theorem Mid.fin (h : Mid F nxt ent N t N 0 o) (ht : t ≤ 13) (hE : ∀ m c, Walk F (EW nxt ent 6) m c → c < N) : ∀ c, c < N → sv o c = lt F (EW nxt ent 6) (t + 1) c := by
  intro c hc
  rcases lt_val (F := F) (E := EW nxt ent 6) (t + 1) c (by omega) with ⟨h1, h2⟩ | ⟨k, h1, h2, h3, h4⟩
  · rcases h.new c hc (fun m hm => h1 m (by omega)) with h5 | ⟨_, h5⟩
    · rw [h5, h2]
    · exact absurd h5 (h1 _ (Nat.le_refl _))
  · by_cases e : k ≤ t
    · rw [h.old c hc ⟨k, e, h2⟩, h4]
      exact lv_some h2 _ _ (by omega) (by omega) h3
    · obtain rfl : k = t + 1 := by omega
      have hnt : ∀ m, m ≤ t → ¬ Walk F (EW nxt ent 6) m c := fun m hm => h3 m (by omega)
      rcases h.new c hc hnt with h5 | ⟨h5, _⟩
      · exfalso
        cases h2 with
        | step hw he =>
          rename_i c'
          have hc' := hE _ _ hw
          have hmin : ∀ m, m < t → ¬ Walk F (EW nxt ent 6) m c' := fun m hm hw' => hnt (m + 1) (by omega) (.step hw' he)
          have h6 := h.old c' hc' ⟨t, Nat.le_refl _, hw⟩
          have h7 : lt F (EW nxt ent 6) t c' = 15 - (t : Int) := lv_some hw _ _ (by omega) (by omega) hmin
          exact h.don c' c hc' (by rw [h6, h7]) he h5
      · rw [h5, h4]; omega
end
end

end Go.Proofs.Ytnfkgnbhdhpnmaa
