/-
  Weights and what is picked by them, free of the program.
-/
import Derived.Test.YtpeiblodefaajaaCoin12
namespace Go.Proofs.Ytpeiblodefaajaa
open Go.ChangeShapes Go.WideShapes Go.ChangeAt Go.RowKit

set_option linter.unusedVariables false
/-- What the first k weights are together. -/
def pre (l : List Int) (k : Nat) : Int := (l.take k).sum
theorem pre_zero (l : List Int) : pre l 0 = 0 := by simp [pre]
theorem pre_all (l : List Int) : pre l l.length = l.sum := by simp [pre]
theorem pre_succ {l : List Int} {k : Nat} {p : Int} (h : l[k]? = some p) : pre l (k + 1) = pre l k + p := by
  unfold pre
  rw [List.take_add_one, h]
  simp
def WP (l : List Int) : Prop := l.length ≤ 60 ∧ ∀ x ∈ l, 0 ≤ x ∧ x ≤ 1000000
instance (l : List Int) : Decidable (WP l) := by unfold WP; infer_instance
theorem WP.at {l : List Int} (h : WP l) {k : Nat} {p : Int} (hp : l[k]? = some p) : 0 ≤ p ∧ p ≤ 1000000 := h.2 p (List.mem_of_getElem? hp)
theorem pre_bd {l : List Int} : ∀ k : Nat, k ≤ l.length → (∀ j, j < k → ∀ p : Int, l[j]? = some p → 0 ≤ p ∧ p ≤ 1000000) → 0 ≤ pre l k ∧ pre l k ≤ 1000000 * k
  | 0, _, _ => by rw [pre_zero]; omega
  | k + 1, hk, h => by
    obtain ⟨p, hp⟩ : ∃ p : Int, l[k]? = some p := ⟨_, List.getElem?_eq_getElem (by omega)⟩
    have h1 := pre_bd k (by omega) (fun j hj => h j (by omega))
    have h2 := h k (by omega) p hp
    rw [pre_succ hp]
    omega
theorem WP.of {l : List Int} (hl : l.length ≤ 60) (h : ∀ j, j < l.length → ∀ p : Int, l[j]? = some p → 0 ≤ p ∧ p ≤ 1000000) : WP l :=
  ⟨hl, fun p hp => by
    obtain ⟨j, hj, e⟩ := List.mem_iff_getElem.1 hp
    exact h j hj p (by rw [List.getElem?_eq_getElem hj, e])⟩
theorem WP.pre {l : List Int} (h : WP l) (k : Nat) (hk : k ≤ l.length) : 0 ≤ pre l k ∧ pre l k ≤ 60000000 := by
  have := pre_bd k hk (fun j _ p hp => h.at hp)
  have := h.1
  omega
theorem WP.sum {l : List Int} (h : WP l) : 0 ≤ l.sum ∧ l.sum ≤ 60000000 := by
  have := h.pre l.length (Nat.le_refl _)
  rwa [pre_all] at this
/-- The place that is picked: the first whose sum is above the bound. -/
def IsPick (l : List Int) (t : Int) (i : Nat) : Prop := i < l.length ∧ t < pre l (i + 1) ∧ ∀ j, j < i → pre l (j + 1) ≤ t
theorem IsPick.one {l : List Int} {t : Int} {i k : Nat} (h : IsPick l t i) (g : IsPick l t k) : i = k := by
  rcases Nat.lt_trichotomy i k with e | e | e
  · have := g.2.2 i e; have := h.2.1; omega
  · exact e
  · have := h.2.2 k e; have := g.2.1; omega
def pickI (t : Int) (l : List Int) : Nat := ((List.range l.length).find? fun i => decide (t < pre l (i + 1))).getD 0
theorem pick_is {l : List Int} {t : Int} (h : t < l.sum) (h0 : 0 ≤ t) : IsPick l t (pickI t l) := by
  have hn : 0 < l.length := by
    rcases l with _ | ⟨x, l⟩
    · simp at h; omega
    · simp
  unfold pickI
  cases e : (List.range l.length).find? fun i => decide (t < pre l (i + 1)) with
  | none =>
    have := List.find?_eq_none.1 e (l.length - 1) (by simp; omega)
    rw [show l.length - 1 + 1 = l.length by omega, pre_all] at this
    simp at this
    omega
  | some i =>
    have h1 := List.find?_eq_some_iff_getElem.1 e
    obtain ⟨h1, k, hk, ek, h2⟩ := h1
    simp at ek
    subst ek
    simp at hk h1
    refine ⟨hk, h1, fun j hj => ?_⟩
    have := h2 j hj
    simp at this
    exact this
def shareI (s c : Int) : Int := s * c / 32768
theorem share_bd {s c : Int} (h0 : 0 < s) (hc : 0 ≤ c ∧ c ≤ 32767) : 0 ≤ shareI s c ∧ shareI s c < s := by
  have h1 : s * c ≤ s * 32767 := Int.mul_le_mul_of_nonneg_left hc.2 (by omega)
  have h2 : 0 ≤ s * c := Int.mul_nonneg (by omega) hc.1
  unfold shareI
  omega
theorem mul_bd2 {s c : Int} (h0 : 0 ≤ s) (h1 : s ≤ 60000000) (hc : 0 ≤ c ∧ c ≤ 32767) : 0 ≤ s * c ∧ s * c ≤ 2000000000000 := by
  have e1 : s * c ≤ s * 32767 := Int.mul_le_mul_of_nonneg_left hc.2 h0
  have e2 : 0 ≤ s * c := Int.mul_nonneg h0 hc.1
  omega
/-- What PickByWeight answers. -/
def pickA (l : List Int) (sd : Int) : Int × Int × Bool := if WP l ∧ 0 < l.sum ∧ 0 ≤ sd ∧ sd ≤ 2147483647 then ((pickI (shareI l.sum (coinC sd)) l : Nat), coinN sd, true) else (0, 0, false)
theorem pickA_no {l : List Int} {sd : Int} (h : ¬ (WP l ∧ 0 < l.sum ∧ 0 ≤ sd ∧ sd ≤ 2147483647)) : pickA l sd = (0, 0, false) := if_neg h
theorem pickA_yes {l : List Int} {sd : Int} {i : Nat} (h : WP l ∧ 0 < l.sum ∧ 0 ≤ sd ∧ sd ≤ 2147483647) (hi : IsPick l (shareI l.sum (coinC sd)) i) : pickA l sd = ((i : Int), coinN sd, true) := by
  have hb := share_bd h.2.1 (coinC_bd sd)
  have := (pick_is hb.2 hb.1).one hi
  unfold pickA
  rw [if_pos h, this]
theorem ret3 {a a' b b' : Int} {c c' : Bool} (h : (a, b, c) = (a', b', c')) : Ending.returned (.tuple #[.int .i64 a, .int .i64 b, .bool c]) = .returned (.tuple #[.int .i64 a', .int .i64 b', .bool c']) := by cases h; rfl
/-- What sumOfWeights answers. -/
def sumV (l : List Int) : Int := if WP l then l.sum else 0
def sumB (l : List Int) : Bool := decide (WP l ∧ 0 < l.sum)
theorem sum_no {l : List Int} (h : ¬ WP l) : sumV l = 0 ∧ sumB l = false := ⟨if_neg h, decide_eq_false fun k => h k.1⟩
theorem sum_yes {l : List Int} (h : WP l) : sumV l = l.sum ∧ sumB l = decide (0 < l.sum) := ⟨if_pos h, by simp [sumB, h]⟩
theorem ret2 {a a' : Int} {c c' : Bool} (h1 : a = a') (h2 : c = c') : Ending.returned (.tuple #[.int .i64 a, .bool c]) = .returned (.tuple #[.int .i64 a', .bool c']) := by rw [h1, h2]

end Go.Proofs.Ytpeiblodefaajaa
