/-
  Names that rise: free of the program.
-/
import Derived.Test.YtgbgnmjgnfocmaaEntries
import Derived.Test.YtgbgnmjgnfocmaaName
import Derived.Test.YtgbgnmjgnfocmaaLess
namespace Go.Proofs.Ytgbgnmjgnfocmaa
open Go.ChangeShapes Go.WideShapes Go.ChangeAt Go.RowKit

set_option maxRecDepth 100000
set_option linter.unusedVariables false
noncomputable def dec (P : Prop) : Bool := @decide P (Classical.propDecidable P)
theorem dec_yes {P : Prop} (h : P) : dec P = true := by unfold dec; exact @decide_eq_true P (Classical.propDecidable P) h
theorem dec_no {P : Prop} (h : ¬ P) : dec P = false := by unfold dec; exact @decide_eq_false P (Classical.propDecidable P) h
theorem of_dec {P : Prop} (h : dec P = true) : P := by unfold dec at h; exact @of_decide_eq_true P (Classical.propDecidable P) h
theorem of_dec_no {P : Prop} (h : dec P = false) : ¬ P := by unfold dec at h; exact @of_decide_eq_false P (Classical.propDecidable P) h
theorem dec_and (P Q : Prop) : dec (P ∧ Q) = (dec P && dec Q) := by
  by_cases h1 : P <;> by_cases h2 : Q
  · rw [dec_yes h1, dec_yes h2, dec_yes ⟨h1, h2⟩]; rfl
  · rw [dec_yes h1, dec_no h2, dec_no (fun h => h2 h.2)]; rfl
  · rw [dec_no h1, dec_no (fun h => h1 h.1)]; rfl
  · rw [dec_no h1, dec_no (fun h => h1 h.1)]; rfl

theorem ret_boolG {a b : Bool} (h : a = b) : Ending.returned (.bool a) = .returned (.bool b) := by rw [h]
theorem all_more {P : Nat → Prop} {k : Nat} (h : ∀ j, j < k → P j) (hk : P k) : ∀ j, j < k + 1 → P j := fun j hj => by
  by_cases e : j = k
  · subst e; exact hk
  · exact h j (by omega)
theorem name_pos {s : ByteArray} (h : nameB s = true) : 1 ≤ s.size := ((nameB_iff s).1 h).1
/-- Names that rise, so many at the most. -/
def KeyOk (l : List ByteArray) (j : Nat) : Prop := ∀ d, l[j]? = some d → nameB d = true ∧ ∀ q, 0 < j → l[j - 1]? = some q → Op.bytesLess q.toList d.toList = true
def KeysP (m : Nat) (l : List ByteArray) : Prop := l.length ≤ m ∧ ∀ j, j < l.length → KeyOk l j
def keysOf (l : List EntryD) : List ByteArray := l.map fun d => d.1
theorem keysOf_len (l : List EntryD) : (keysOf l).length = l.length := by simp [keysOf]
theorem keysOf_get {l : List EntryD} {j : Nat} {d : EntryD} (h : l[j]? = some d) : (keysOf l)[j]? = some d.1 := by simp [keysOf, h]
theorem key_next {l : List ByteArray} {j j' : Nat} {d q : ByteArray} (hp : l[j]? = some d) (h1 : nameB d = true) (hj : j = j' + 1) (hq : l[j']? = some q) : KeyOk l j ↔ Op.bytesLess q.toList d.toList = true := by
  constructor
  · intro h
    exact (h _ hp).2 q (by omega) (by rw [hj]; simpa using hq)
  · intro h y hy
    rw [hp] at hy
    cases hy
    refine ⟨h1, fun a _ ha' => ?_⟩
    rw [hj] at ha'
    simp only [Nat.add_sub_cancel] at ha'
    rw [hq] at ha'
    cases ha'
    exact h
theorem key_first {l : List ByteArray} {j : Nat} {d : ByteArray} (hp : l[j]? = some d) (h1 : nameB d = true) (hj : ¬ 0 < j) : KeyOk l j := fun y hy => by
  rw [hp] at hy
  cases hy
  exact ⟨h1, fun a h => absurd h hj⟩
theorem key_iff {l : List ByteArray} {k : Nat} {p s : ByteArray} (hp : l[k]? = some p) (h0 : k = 0 → s = ⟨#[]⟩) (hq : ∀ q, 0 < k → l[k - 1]? = some q → s = q) :
    KeyOk l k ↔ nameB p = true ∧ Op.bytesLess p.toList s.toList = false ∧ (p.toList == s.toList) = false := by
  by_cases hn : nameB p = true
  · by_cases e : k = 0
    · have hs := h0 e
      subst hs
      have h1 : (⟨#[]⟩ : ByteArray).toList = [] := by rw [ByteArray.toList_eq]
      have h2 : Op.bytesLess p.toList (⟨#[]⟩ : ByteArray).toList = false := by rw [h1]; cases p.toList <;> rfl
      have h3 : (p.toList == (⟨#[]⟩ : ByteArray).toList) = false := by
        rw [beq_eq_false_iff_ne]
        intro e2
        have := toList_inj e2
        have h1 := name_pos hn
        rw [this] at h1
        simp [ByteArray.size] at h1
      exact ⟨fun _ => ⟨hn, h2, h3⟩, fun _ => key_first hp hn (by omega)⟩
    · have hk : k < l.length := (List.getElem?_eq_some_iff.1 hp).1
      obtain ⟨q, hqq⟩ : ∃ q, l[k - 1]? = some q := ⟨_, List.getElem?_eq_getElem (by omega)⟩
      have hs := hq q (by omega) hqq
      subst hs
      rw [key_next hp hn (show k = k - 1 + 1 by omega) hqq]
      constructor
      · intro h
        refine ⟨hn, bl_asym _ _ h, ?_⟩
        rw [beq_eq_false_iff_ne]
        intro e2
        rw [e2, bl_irr] at h
        cases h
      · rintro ⟨_, h1, h2⟩
        exact bl_tri _ _ h1 (by rwa [beq_eq_false_iff_ne] at h2)
  · refine ⟨fun h => absurd (h _ hp).1 hn, fun h => absurd h.1 hn⟩

end Go.Proofs.Ytgbgnmjgnfocmaa
