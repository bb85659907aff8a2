/-
  What was seen some lists ago, free of the program.
-/
import Derived.Test.YtaadlhcpgjibeaaDoorThP23
namespace Go.Proofs.YtaadlhcpgjibeaaDoor
open Go.ChangeShapes Go.WideShapes Go.ChangeAt Go.RowKit

set_option maxRecDepth 100000
set_option linter.unusedVariables false
set_option linter.unusedSimpArgs false

/-- Where the first thing of an Id stands, or -1. -/
def atI (l : List ThingD) (id : Int) : Int := match l.findIdx? (fun p => p.1 == id) with
  | some i => (i : Int)
  | none => -1
theorem atI_yes {l : List ThingD} {id : Int} {j : Nat} {p : ThingD} (hp : l[j]? = some p) (h : p.1 = id) (hn : ∀ i, i < j → ∀ q, l[i]? = some q → q.1 ≠ id) : atI l id = (j : Int) := by
  obtain ⟨hj, e⟩ := List.getElem?_eq_some_iff.1 hp
  have h1 : l.findIdx? (fun p => p.1 == id) = some j := by
    rw [List.findIdx?_eq_some_iff_getElem]
    refine ⟨hj, by rw [e]; simpa using h, fun i hi => ?_⟩
    have := hn i hi _ (List.getElem?_eq_getElem (by omega))
    simpa using this
  rw [atI, h1]
theorem atI_no {l : List ThingD} {id : Int} (hn : ∀ i, i < l.length → ∀ q, l[i]? = some q → q.1 ≠ id) : atI l id = -1 := by
  have h1 : l.findIdx? (fun p => p.1 == id) = none := by
    rw [List.findIdx?_eq_none_iff]
    intro x hx
    obtain ⟨i, hi, e⟩ := List.mem_iff_getElem.1 hx
    have := hn i hi x (by rw [List.getElem?_eq_getElem hi, e])
    simpa using this
  rw [atI, h1]
/-- The first thing of an Id, if there is one. -/
def findT (l : List ThingD) (id : Int) : ThingD × Bool := match l.find? (fun p => p.1 == id) with
  | some p => (p, true)
  | none => (thing0, false)
theorem findT_yes {l : List ThingD} {id : Int} {j : Nat} {p : ThingD} (hp : l[j]? = some p) (h : p.1 = id) (hn : ∀ i, i < j → ∀ q, l[i]? = some q → q.1 ≠ id) : findT l id = (p, true) := by
  obtain ⟨hj, e⟩ := List.getElem?_eq_some_iff.1 hp
  have h1 : l.find? (fun p => p.1 == id) = some p := by
    rw [List.find?_eq_some_iff_getElem]
    refine ⟨by simpa using h, j, hj, e, fun i hi => ?_⟩
    have := hn i hi _ (List.getElem?_eq_getElem (by omega))
    simpa using this
  rw [findT, h1]
theorem findT_no {l : List ThingD} {id : Int} (hn : ∀ i, i < l.length → ∀ q, l[i]? = some q → q.1 ≠ id) : findT l id = (thing0, false) := by
  have h1 : l.find? (fun p => p.1 == id) = none := by
    rw [List.find?_eq_none]
    intro x hx
    obtain ⟨i, hi, e⟩ := List.mem_iff_getElem.1 hx
    have := hn i hi x (by rw [List.getElem?_eq_getElem hi, e])
    simpa using this
  rw [findT, h1]
theorem first_or (l : List ThingD) (id : Int) : (∃ (j : Nat) (p : ThingD), l[j]? = some p ∧ p.1 = id ∧ ∀ i, i < j → ∀ q : ThingD, l[i]? = some q → q.1 ≠ id) ∨ (∀ i, i < l.length → ∀ q : ThingD, l[i]? = some q → q.1 ≠ id) := by
  cases h : l.findIdx? (fun p => p.1 == id) with
  | none =>
    rw [List.findIdx?_eq_none_iff] at h
    exact .inr fun i _ q hq => by have := h q (List.mem_of_getElem? hq); simpa using this
  | some j =>
    rw [List.findIdx?_eq_some_iff_getElem] at h
    obtain ⟨hj, h1, h2⟩ := h
    refine .inl ⟨j, l[j], List.getElem?_eq_getElem hj, by simpa using h1, fun i hi q hq => ?_⟩
    obtain ⟨h3, h4⟩ := List.getElem?_eq_some_iff.1 hq
    have := h2 i hi
    rw [h4] at this
    simpa using this
def SeenP (h : List (List ThingD)) (ago : Int) : Prop := (1 ≤ h.length ∧ h.length ≤ 40) ∧ (0 ≤ ago ∧ ago ≤ (h.length : Int) - 1) ∧ ∀ j, j < h.length → ∀ l, h[j]? = some l → goodB l = true
def seenB (h : List (List ThingD)) (ago : Int) : Bool := decide (1 ≤ h.length) && decide (h.length ≤ 40) && decide (0 ≤ ago) && decide (ago ≤ (h.length : Int) - 1) && h.all goodB
theorem seenB_iff (h : List (List ThingD)) (ago : Int) : seenB h ago = true ↔ SeenP h ago := by
  unfold seenB SeenP
  simp only [Bool.and_eq_true, decide_eq_true_eq, List.all_eq_true]
  constructor
  · intro ⟨⟨⟨⟨h1, h2⟩, h3⟩, h4⟩, h5⟩
    exact ⟨⟨h1, h2⟩, ⟨h3, h4⟩, fun j hj l hl => h5 l (List.mem_of_getElem? hl)⟩
  · intro ⟨⟨h1, h2⟩, ⟨h3, h4⟩, h5⟩
    refine ⟨⟨⟨⟨h1, h2⟩, h3⟩, h4⟩, fun l hl => ?_⟩
    obtain ⟨i, hi, e⟩ := List.mem_iff_getElem.1 hl
    exact h5 i hi l (by rw [List.getElem?_eq_getElem hi, e])
/-- What SeenAgo answers. -/
def seenA (h : List (List ThingD)) (ago id : Int) : ThingD × Bool := if seenB h ago then findT (h[h.length - 1 - ago.toNat]?.getD []) id else (thing0, false)
theorem seenA_no {h : List (List ThingD)} {ago id : Int} (hn : ¬ SeenP h ago) : seenA h ago id = (thing0, false) := by
  unfold seenA
  rw [if_neg (fun e => hn ((seenB_iff h ago).1 e))]
theorem seenA_yes {h : List (List ThingD)} {ago id : Int} {l : List ThingD} (hp : SeenP h ago) (hl : h[h.length - 1 - ago.toNat]? = some l) : seenA h ago id = findT l id := by
  unfold seenA
  rw [if_pos ((seenB_iff h ago).2 hp), hl]
  rfl

end Go.Proofs.YtaadlhcpgjibeaaDoor
