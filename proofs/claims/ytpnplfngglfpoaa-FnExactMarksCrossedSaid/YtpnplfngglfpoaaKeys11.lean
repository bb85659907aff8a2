/-
  Keys and values, free of the program.
-/
import Derived.Test.YtpnplfngglfpoaaKey
import Derived.Test.YtpnplfngglfpoaaNum
namespace Go.Proofs.Ytpnplfngglfpoaa
open Go.ChangeShapes Go.WideShapes Go.ChangeAt Go.RowKit

set_option linter.unusedVariables false
abbrev ValP (v : Int) : Prop := -100000 ≤ v ∧ v ≤ 100000
/-- What is asked of the key at place j. -/
def KeyOk (b : Int) (l : List KeyD) (j : Nat) : Prop := ∀ k, l[j]? = some k → (0 ≤ k.1 ∧ k.1 < b) ∧ ValP k.2 ∧ ∀ a, 0 < j → l[j - 1]? = some a → a.1 < k.1
def KeysP (b : Int) (l : List KeyD) : Prop := (0 < l.length ∧ l.length ≤ 60) ∧ ∀ j, j < l.length → KeyOk b l j
noncomputable instance (b : Int) (l : List KeyD) : Decidable (KeysP b l) := Classical.propDecidable _
theorem key_more {b : Int} {ps : List KeyD} {k : Nat} (h : ∀ j, j < k → KeyOk b ps j) (hk : KeyOk b ps k) : ∀ j, j < k + 1 → KeyOk b ps j := fun j hj => by
  by_cases e : j = k
  · subst e; exact hk
  · exact h j (by omega)
theorem keys_low {b : Int} {l : List KeyD} {n : Nat} (h : ∀ j, j < n → KeyOk b l j) : ∀ (j : Nat) (k : KeyD), j < n → l[j]? = some k → (j : Int) ≤ k.1
  | 0, k, hj, hk => (h 0 hj k hk).1.1
  | j + 1, k, hj, hk => by
    have hl := (List.getElem?_eq_some_iff.1 hk).1
    obtain ⟨a, ha⟩ : ∃ a, l[j]? = some a := ⟨_, List.getElem?_eq_getElem (by omega)⟩
    have h1 := keys_low h j a (by omega) ha
    have h2 := (h (j + 1) hj k hk).2.2 a (by omega) (by simpa using ha)
    omega
theorem keys_few {b : Int} {l : List KeyD} (hb : b ≤ 60) (h : ∀ j, j < l.length → KeyOk b l j) : l.length ≤ 60 := by
  by_cases h0 : l.length = 0
  · omega
  · obtain ⟨a, ha⟩ : ∃ a, l[l.length - 1]? = some a := ⟨_, List.getElem?_eq_getElem (by omega)⟩
    have h1 := keys_low h _ a (by omega) ha
    have h2 := (h _ (by omega) a ha).1.2
    omega
theorem KeysP.low {b : Int} {l : List KeyD} (h : KeysP b l) {j : Nat} {k : KeyD} (hk : l[j]? = some k) : 0 ≤ k.1 ∧ k.1 < b ∧ ValP k.2 := by
  have := h.2 j (List.getElem?_eq_some_iff.1 hk).1 k hk
  exact ⟨this.1.1, this.1.2, this.2.1⟩
theorem KeysP.lt {b : Int} {l : List KeyD} (h : KeysP b l) : ∀ {i j : Nat} {a k : KeyD}, i < j → l[i]? = some a → l[j]? = some k → a.1 < k.1
  | i, 0, a, k, hij, _, _ => by omega
  | i, j + 1, a, k, hij, ha, hk => by
    have hl := (List.getElem?_eq_some_iff.1 hk).1
    obtain ⟨c, hc⟩ : ∃ a, l[j]? = some a := ⟨_, List.getElem?_eq_getElem (by omega)⟩
    have h2 := (h.2 (j + 1) hl k hk).2.2 c (by omega) (by simpa using hc)
    by_cases e : i = j
    · subst e
      rw [ha] at hc
      cases hc
      exact h2
    · have := KeysP.lt h (show i < j by omega) ha hc
      omega
/-- The number c is how many keys lie ahead of the frame. -/
def IsC (l : List KeyD) (f : Int) (c : Nat) : Prop := c ≤ l.length ∧ ∀ j k, l[j]? = some k → (j < c ↔ k.1 < f)
theorem IsC.one {l : List KeyD} {f : Int} {c d : Nat} (h : IsC l f c) (h' : IsC l f d) : c = d := by
  have key : ∀ {c d : Nat}, IsC l f c → IsC l f d → ¬ c < d := fun {c d} h h' hlt => by
    have hd := h'.1
    obtain ⟨a, ha⟩ : ∃ a, l[c]? = some a := ⟨_, List.getElem?_eq_getElem (by omega)⟩
    have h1 := (h'.2 c a ha).1 hlt
    have h2 := (h.2 c a ha).2 h1
    omega
  have := key h h'
  have := key h' h
  omega
theorem KeysP.isC {b : Int} {l : List KeyD} (h : KeysP b l) (f : Int) : ∃ c, IsC l f c := by
  have key : ∀ n, n ≤ l.length → ∃ c, c ≤ n ∧ ∀ j k, l[j]? = some k → j < n → (j < c ↔ k.1 < f) := by
    intro n
    induction n with
    | zero => exact fun _ => ⟨0, by omega, fun j k _ hj => by omega⟩
    | succ n ih =>
      intro hn
      obtain ⟨c, hc, hi⟩ := ih (by omega)
      obtain ⟨a, ha⟩ : ∃ a, l[n]? = some a := ⟨_, List.getElem?_eq_getElem (by omega)⟩
      by_cases hf : a.1 < f
      · refine ⟨n + 1, by omega, fun j k hk hj => ?_⟩
        by_cases e : j = n
        · subst e
          rw [ha] at hk
          cases hk
          simp [hf]
        · have := h.lt (show j < n by omega) hk ha
          constructor
          · intro _; omega
          · intro _; omega
      · refine ⟨c, by omega, fun j k hk hj => ?_⟩
        by_cases e : j = n
        · subst e
          rw [ha] at hk
          cases hk
          constructor
          · intro _; omega
          · intro _; omega
        · exact hi j k hk (by omega)
  obtain ⟨c, hc, hi⟩ := key l.length (Nat.le_refl _)
  exact ⟨c, hc, fun j k hk => hi j k hk (List.getElem?_eq_some_iff.1 hk).1⟩
/-- The value between two keys. -/
def btw (a b : KeyD) (f : Int) : Int := a.2 + (b.2 - a.2) * (f - a.1) / (b.1 - a.1)
def keyAt (l : List KeyD) (i : Nat) : KeyD := (l[i]?).getD (0, 0)
theorem keyAt_some {l : List KeyD} {i : Nat} {k : KeyD} (h : l[i]? = some k) : keyAt l i = k := by simp [keyAt, h]
def valC (l : List KeyD) (f : Int) (c : Nat) : Int := if c = 0 then (keyAt l 0).2 else if c = l.length then (keyAt l (c - 1)).2 else btw (keyAt l (c - 1)) (keyAt l c) f
open Classical in
noncomputable def atK (l : List KeyD) (f : Int) : Int := if h : ∃ c, IsC l f c then valC l f (Classical.choose h) else 0
theorem atK_eq {l : List KeyD} {f : Int} {c : Nat} (h : IsC l f c) : atK l f = valC l f c := by
  have hx : ∃ c, IsC l f c := ⟨c, h⟩
  unfold atK
  rw [dif_pos hx, (Classical.choose_spec hx).one h]
/-- A product of two small numbers. -/
theorem mul_bd {x y A B : Int} (h1 : -A ≤ x) (h2 : x ≤ A) (h3 : 0 ≤ y) (h4 : y ≤ B) : -(A * B) ≤ x * y ∧ x * y ≤ A * B := by
  have hA : 0 ≤ A := by omega
  constructor
  · have e1 : (-A) * y ≤ x * y := Int.mul_le_mul_of_nonneg_right h1 h3
    have e2 : A * y ≤ A * B := Int.mul_le_mul_of_nonneg_left h4 hA
    rw [Int.neg_mul] at e1
    omega
  · have e1 : x * y ≤ A * y := Int.mul_le_mul_of_nonneg_right h2 h3
    have e2 : A * y ≤ A * B := Int.mul_le_mul_of_nonneg_left h4 hA
    omega
theorem btw_bd {a b : KeyD} {f : Int} (ha : ValP a.2) (hb : ValP b.2) (h1 : a.1 < f) (h2 : f ≤ b.1) : ValP (btw a b f) := by
  unfold btw ValP at *
  have hd : 0 < b.1 - a.1 := by omega
  by_cases hs : 0 ≤ b.2 - a.2
  · have e1 : 0 ≤ (b.2 - a.2) * (f - a.1) / (b.1 - a.1) := Int.ediv_nonneg (Int.mul_nonneg hs (by omega)) (by omega)
    have e2 : (b.2 - a.2) * (f - a.1) / (b.1 - a.1) ≤ b.2 - a.2 := by
      apply Int.ediv_le_of_le_mul hd
      exact Int.mul_le_mul_of_nonneg_left (by omega) hs
    omega
  · have e1 : (b.2 - a.2) * (f - a.1) / (b.1 - a.1) ≤ 0 := by
      have := Int.ediv_le_ediv hd (show (b.2 - a.2) * (f - a.1) ≤ 0 from Int.mul_nonpos_of_nonpos_of_nonneg (by omega) (by omega))
      simpa using this
    have e2 : b.2 - a.2 ≤ (b.2 - a.2) * (f - a.1) / (b.1 - a.1) := by
      apply (Int.le_ediv_iff_mul_le hd).2
      have := Int.mul_le_mul_of_nonpos_left (show b.2 - a.2 ≤ 0 by omega) (show f - a.1 ≤ b.1 - a.1 by omega)
      omega
    omega
theorem atK_bd {b : Int} {l : List KeyD} (h : KeysP b l) (f : Int) : ValP (atK l f) := by
  obtain ⟨c, hc⟩ := h.isC f
  rw [atK_eq hc]
  have hcl := hc.1
  have h0 := h.1.1
  unfold valC
  split
  · obtain ⟨a, ha⟩ : ∃ a, l[0]? = some a := ⟨_, List.getElem?_eq_getElem h0⟩
    rw [keyAt_some ha]
    exact (h.low ha).2.2
  · obtain ⟨a, ha⟩ : ∃ a, l[c - 1]? = some a := ⟨_, List.getElem?_eq_getElem (by omega)⟩
    rw [keyAt_some ha]
    split
    · exact (h.low ha).2.2
    · obtain ⟨k, hk⟩ : ∃ a, l[c]? = some a := ⟨_, List.getElem?_eq_getElem (by omega)⟩
      rw [keyAt_some hk]
      have h1 := (hc.2 _ _ ha).1 (by omega)
      have h2 : ¬ k.1 < f := fun h => by have := (hc.2 _ _ hk).2 h; omega
      exact btw_bd (h.low ha).2.2 (h.low hk).2.2 h1 (by omega)
/-- Rows of values. -/
def ValsP (l : List NumD) : Prop := (1 ≤ l.length ∧ l.length ≤ 60) ∧ ∀ v ∈ l, ValP v
noncomputable instance (l : List NumD) : Decidable (ValsP l) := Classical.propDecidable _
def dist (a b : Int) : Int := if a - b < 0 then -(a - b) else a - b
noncomputable def worst (vs : List NumD) (l : List KeyD) : Nat → Int
  | 0 => 0
  | n + 1 => max (worst vs l n) (dist (atK l n) ((vs[n]?).getD 0))
theorem worst_bd {b : Int} {vs : List NumD} {l : List KeyD} (hl : KeysP b l) (hv : ∀ v ∈ vs, ValP v) : ∀ n, n ≤ vs.length → 0 ≤ worst vs l n ∧ worst vs l n ≤ 200000
  | 0, _ => by simp [worst]
  | n + 1, hn => by
    have ih := worst_bd hl hv n (by omega)
    obtain ⟨x, hx⟩ : ∃ x, vs[n]? = some x := ⟨_, List.getElem?_eq_getElem (by omega)⟩
    have h1 := hv x (List.mem_of_getElem? hx)
    have h2 := atK_bd hl (n : Int)
    simp only [worst, hx, Option.getD_some]
    unfold dist ValP at *
    split <;> omega

end Go.Proofs.Ytpnplfngglfpoaa
