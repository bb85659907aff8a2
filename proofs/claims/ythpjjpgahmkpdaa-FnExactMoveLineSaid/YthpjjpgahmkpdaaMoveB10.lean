/-
  Moves: what both sides lean on.
-/
import Derived.Test.YthpjjpgahmkpdaaMoveP10
import Derived.Test.YthpjjpgahmkpdaaSplit10
import Derived.Test.YthpjjpgahmkpdaaQuiet
namespace Go.Proofs.Ythpjjpgahmkpdaa
open Go.ChangeShapes Go.WideShapes Go.ChangeAt Go.RowKit

set_option maxRecDepth 100000
set_option linter.unusedVariables false
set_option linter.unusedSimpArgs false

theorem BodyO.set0 {w : World} {lo hi g cap m : Nat} {ps : List BodyD} (h : BodyO w lo hi (.slice (some ⟨g, 0, none⟩) m cap) ps) (hn : m = ps.length) {i : Nat} {p : BodyD} (hp : ps[i]? = some p) (x : Int) :
    BodyO (w.setCell ⟨g, i * 4, none⟩ (.int .i64 x)) lo hi (.slice (some ⟨g, 0, none⟩) m cap) (ps.set i (x, p.2)) := by
  subst hn
  have := RowO.set h (4 * i + 0) (.int .i64 x)
  unfold BodyO
  rw [List.length_set, Nat.mul_comm i 4]
  rw [flat_set 4 bodyC bodyC_len ps i 0 p (x, p.2) (.int .i64 x) hp (by omega) rfl] at this
  simpa using this
theorem SolidO.set0 {w : World} {lo hi g cap m : Nat} {ps : List SolidD} (h : SolidO w lo hi (.slice (some ⟨g, 0, none⟩) m cap) ps) (hn : m = ps.length) {i : Nat} {p : SolidD} (hp : ps[i]? = some p) (x : Int) :
    SolidO (w.setCell ⟨g, i * 4, none⟩ (.int .i64 x)) lo hi (.slice (some ⟨g, 0, none⟩) m cap) (ps.set i (x, p.2)) := by
  subst hn
  have := RowO.set h (4 * i + 0) (.int .i64 x)
  unfold SolidO
  rw [List.length_set, Nat.mul_comm i 4]
  rw [flat_set 4 solidC solidC_len ps i 0 p (x, p.2) (.int .i64 x) hp (by omega) rfl] at this
  simpa using this
theorem set_same {α : Type} {l : List α} {i : Nat} {a : α} (h : l[i]? = some a) : l.set i a = l := by
  apply List.ext_getElem?
  intro j
  rw [List.getElem?_set]
  by_cases e : i = j
  · subst e
    obtain ⟨h1, h2⟩ := List.getElem?_eq_some_iff.1 h
    simp [h1, h2]
  · simp [e]
theorem wp_region_ksq {P : Program} {id : Nat} {Q : Exit → Act → World → Prop} {a : Act} {w : World} {l : List Oper} (m d : Nat) (hm : P.follows .mixedOrders = true) (hB : Region.lexB .any l.toArray = true) (hR : splitB l.toArray m d = true) (hml : m ≤ l.length)
    (h : wpQuiet P l.toArray (fun w' => ∃ x : KW w, w' = x.w) (fun a' => ∀ w', (∃ x : KW w, w' = x.w) → wpList P l.toArray Q (l.drop m) a' w') (l.take m) a) : (Code.region id l.toArray true).wp P Q a w :=
  wp_region_split m d hm hB hR hml ⟨⟨w.drew, (But.refl _ _ w).drew⟩, rfl⟩ h
theorem mulT {p t : Int} (hp : -1000000 ≤ p ∧ p ≤ 1000000) (ht : 0 ≤ t ∧ t ≤ 1000) : -1000000000 ≤ p * t ∧ p * t ≤ 1000000000 := by
  have k1 := Int.mul_le_mul_of_nonneg_right hp.2 ht.1
  have k2 := Int.mul_le_mul_of_nonneg_right hp.1 ht.1
  constructor <;> omega
theorem tdiv_bd {a m : Int} (h : -1000000000 ≤ a ∧ a ≤ 1000000000) : -1000000000 ≤ a.tdiv m ∧ a.tdiv m ≤ 1000000000 := by
  have h1 := Int.natAbs_tdiv_le_natAbs a m
  omega
theorem want_bd {b : BodyD} {t : Int} (hb : BodyP b) (ht : 0 ≤ t ∧ t ≤ 1000) : -2000000000 ≤ (want t b).1 ∧ (want t b).1 ≤ 2000000000 := by
  obtain ⟨h1, h2, _⟩ := hb
  have h3 := tdiv_bd (m := b.2.2.1) (mulT h2 ht)
  unfold want
  dsimp only
  split <;> omega
theorem fit_want {ps : List BodyD} {t : Int} (h : LineP ps) (ht : 0 ≤ t ∧ t ≤ 1000) : Fit (-2000000000) 2000000000 (ps.map (want t)) := fun i b hb => by
  rw [List.getElem?_map] at hb
  cases hp : ps[i]? with
  | none => rw [hp] at hb; simp at hb
  | some p =>
    rw [hp] at hb
    simp at hb
    subst hb
    have := h.body hp
    exact ⟨want_bd this ht, this.2.2.2.2⟩
theorem right_mass {ps : List BodyD} (h : ∀ (i : Nat) b, ps[i]? = some b → 0 ≤ b.2.2.1) : ∀ (i : Nat) (c : BodyD), (rightL ps)[i]? = some c → 0 ≤ c.2.2.1
  | 0, c, hc => by
    rw [rightL_zero] at hc
    exact h 0 c hc
  | i + 1, c, hc => by
    have hl : i + 1 < ps.length := by have := (List.getElem?_eq_some_iff.1 hc).1; rw [rightL_len] at this; exact this
    obtain ⟨b, hb⟩ : ∃ b, ps[i + 1]? = some b := ⟨_, List.getElem?_eq_getElem hl⟩
    obtain ⟨a, ha⟩ : ∃ b, (rightL ps)[i]? = some b := ⟨_, List.getElem?_eq_getElem (by rw [rightL_len]; omega)⟩
    rw [rightL_get hb ha] at hc
    cases hc
    exact h (i + 1) b hb
theorem want_mass {ps : List BodyD} {t : Int} (h : LineP ps) : ∀ (i : Nat) (b : BodyD), (ps.map (want t))[i]? = some b → 0 ≤ b.2.2.1 := fun i b hb => by
  rw [List.getElem?_map] at hb
  cases hp : ps[i]? with
  | none => rw [hp] at hb; simp at hb
  | some p =>
    rw [hp] at hb
    simp at hb
    subst hb
    exact (h.body hp).2.2.1.1
theorem row_formB' {w : World} {lo hi : Nat} {ao : Option Addr} {n cap : Nat} {ps : List BodyD} (h : BodyO w lo hi (.slice ao n cap) ps) (hp : 0 < ps.length) : ∃ g, ao = some ⟨g, 0, none⟩ ∧ lo ≤ g ∧ g < hi ∧ n = ps.length ∧ ps.length ≤ cap := by
  have h2 := h.2
  rcases h.1.2 with ⟨hv, hx⟩ | ⟨g, c, cur, hv, hb, _, hc, _⟩
  · omega
  · cases hv
    exact ⟨g, rfl, hb, h2 g rfl, rfl, hc⟩

end Go.Proofs.Ythpjjpgahmkpdaa
