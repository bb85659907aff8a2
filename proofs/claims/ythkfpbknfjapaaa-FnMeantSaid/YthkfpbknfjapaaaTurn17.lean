/-
  An action goes on and off in turn; free of the program.
-/
import Derived.Test.YthkfpbknfjapaaaMeaP17
import Derived.Test.YthkfpbknfjapaaaRebP17
namespace Go.Proofs.Ythkfpbknfjapaaa
open Go.ChangeShapes Go.WideShapes Go.ChangeAt Go.RowKit

set_option maxRecDepth 100000
set_option linter.unusedVariables false

/-- Whether an action is on behind a list of meant ones. -/
def lastOn (a : ByteArray) (L : List MeantD) : Bool := L.foldl (fun s o => if o.2.1 = a then o.2.2 else s) false
def Alt (L : List MeantD) : Prop := ∀ (i : Nat) (m : MeantD), L[i]? = some m → lastOn m.2.1 (L.take i) ≠ m.2.2
theorem lastOn_snoc (a : ByteArray) (L : List MeantD) (m : MeantD) : lastOn a (L ++ [m]) = if m.2.1 = a then m.2.2 else lastOn a L := by
  unfold lastOn
  rw [List.foldl_append]
  rfl
theorem alt_snoc {L : List MeantD} {m : MeantD} (h : Alt L) (hm : lastOn m.2.1 L ≠ m.2.2) : Alt (L ++ [m]) := fun i x hx => by
  rcases Nat.lt_or_ge i L.length with hi | hi
  · rw [List.getElem?_append_left hi] at hx
    rw [List.take_append_of_le_length (by omega)]
    exact h i x hx
  · rw [List.getElem?_append_right hi] at hx
    have : i - L.length = 0 := by
      rcases Nat.eq_zero_or_pos (i - L.length) with h0 | h0
      · exact h0
      · rw [List.getElem?_eq_none (by simp; omega)] at hx; cases hx
    rw [this] at hx
    simp at hx
    subst hx
    rw [show i = L.length by omega, List.take_append_of_le_length (Nat.le_refl _), List.take_length]
    exact hm
theorem act_ne {l : List BindD} (hb : BindsP l) {i j : Nat} {p q : BindD} (hij : i ≠ j) (hp : l[i]? = some p) (hq : l[j]? = some q) : p.1 ≠ q.1 := fun e => by
  have hr := binds_ris hb
  rcases Nat.lt_or_ge i j with h | h
  · have := hr i j p q h hp hq
    rw [e, less_irr] at this
    cases this
  · have := hr j i q p (by omega) hq hp
    rw [e, less_irr] at this
    cases this
theorem ev_turn {l : List BindD} (hb : BindsP l) (t : Int) (H H' : List Int) {L : List MeantD} (hL : ∀ (i : Nat) (d : BindD), l[i]? = some d → lastOn d.1 L = onB l H d) (hA : Alt L) :
    ∀ j, j ≤ l.length → Alt (L ++ evK l t H H' j) ∧ ∀ (i : Nat) (d : BindD), l[i]? = some d → lastOn d.1 (L ++ evK l t H H' j) = if i < j then onB l H' d else onB l H d
  | 0, _ => by
    rw [show evK l t H H' 0 = [] from rfl, List.append_nil]
    exact ⟨hA, fun i d hd => by rw [if_neg (by omega)]; exact hL i d hd⟩
  | j + 1, hj => by
    obtain ⟨i1, i2⟩ := ev_turn hb t H H' hL hA j (by omega)
    obtain ⟨d, hd⟩ : ∃ p, l[j]? = some p := ⟨_, List.getElem?_eq_getElem (by omega)⟩
    by_cases e : onB l H' d = onB l H d
    · rw [evK_same hd e]
      refine ⟨i1, fun i x hx => ?_⟩
      rw [i2 i x hx]
      by_cases h : i = j
      · subst h
        rw [hd] at hx
        cases hx
        rw [if_neg (by omega), if_pos (by omega), e]
      · by_cases h2 : i < j
        · rw [if_pos h2, if_pos (by omega)]
        · rw [if_neg h2, if_neg (by omega)]
    · rw [evK_new hd e, ← List.append_assoc]
      have h0 := i2 j d hd
      rw [if_neg (by omega)] at h0
      refine ⟨alt_snoc i1 (by dsimp only; rw [h0]; exact fun h => e h.symm), fun i x hx => ?_⟩
      rw [lastOn_snoc]
      by_cases h : i = j
      · subst h
        rw [hd] at hx
        cases hx
        rw [if_pos rfl, if_pos (by omega)]
      · rw [if_neg (act_ne hb (fun e => h e.symm) hd hx), i2 i x hx]
        by_cases h2 : i < j
        · rw [if_pos h2, if_pos (by omega)]
        · rw [if_neg h2, if_neg (by omega)]
theorem mea_turn {l : List BindD} (hb : BindsP l) (es : List PressD) : ∀ k, k ≤ es.length → Alt (meaK l es k) ∧ ∀ (i : Nat) (d : BindD), l[i]? = some d → lastOn d.1 (meaK l es k) = onB l (prK es k) d
  | 0, _ => ⟨fun i m h => by simp [meaK] at h, fun i d hd => by
      rw [show prK es 0 = [] from rfl, onB_nil hb hd]
      rfl⟩
  | k + 1, hk => by
    obtain ⟨i1, i2⟩ := mea_turn hb es k (by omega)
    obtain ⟨e, he⟩ : ∃ p, es[k]? = some p := ⟨_, List.getElem?_eq_getElem (by omega)⟩
    rw [meaK_next he]
    obtain ⟨j1, j2⟩ := ev_turn hb e.1 (prK es k) (prK es (k + 1)) i2 i1 l.length (Nat.le_refl _)
    refine ⟨j1, fun i d hd => ?_⟩
    rw [j2 i d hd, if_pos (List.getElem?_eq_some_iff.1 hd).1]
theorem meaA_turn (l : List BindD) (es : List PressD) : Alt (meaA l es).1 := by
  by_cases h : MeaOk l es
  · rw [meaA_yes h]
    exact (mea_turn h.1 es es.length (Nat.le_refl _)).1
  · rw [meaA_no h]
    exact fun i m h => by simp at h

end Go.Proofs.Ythkfpbknfjapaaa
