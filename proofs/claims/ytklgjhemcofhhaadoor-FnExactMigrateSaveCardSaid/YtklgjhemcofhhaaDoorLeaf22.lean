/-
  Names that rise, good values: free of the program.
-/
import Derived.Test.YtklgjhemcofhhaaDoorVal
import Derived.Test.YtklgjhemcofhhaaDoorName
import Derived.Test.YtklgjhemcofhhaaDoorLess
namespace Go.Proofs.YtklgjhemcofhhaaDoor
open Go.ChangeShapes Go.WideShapes Go.ChangeAt Go.RowKit

set_option maxRecDepth 100000
set_option linter.unusedVariables false
set_option linter.unusedSimpArgs false

theorem ret_boolG {a b : Bool} (h : a = b) : Ending.returned (.bool a) = .returned (.bool b) := by rw [h]
theorem ret_intG {a b : Int} (h : a = b) : Ending.returned (.int .i64 a) = .returned (.int .i64 b) := by rw [h]
theorem all_more {P : Nat → Prop} {k : Nat} (h : ∀ j, j < k → P j) (hk : P k) : ∀ j, j < k + 1 → P j := fun j hj => by
  by_cases e : j = k
  · subst e; exact hk
  · exact h j (by omega)
theorem name_pos {s : ByteArray} (h : nameB s = true) : 1 ≤ s.size := ((nameB_iff s).1 h).1
/-- Whether a name stands behind the one ahead of it. -/
def beforeN (l : List ByteArray) (j : Nat) (s : ByteArray) : Bool := match j with
  | 0 => true
  | j' + 1 => match l[j']? with
    | none => true
    | some q => Op.bytesLess q.toList s.toList
def keyB (l : List ByteArray) (j : Nat) : Bool := match l[j]? with
  | none => true
  | some d => nameB d && beforeN l j d
abbrev KeyOk (l : List ByteArray) (j : Nat) : Prop := keyB l j = true
abbrev KeysP (m : Nat) (l : List ByteArray) : Prop := l.length ≤ m ∧ ∀ j, j < l.length → KeyOk l j
theorem key_eq {l : List ByteArray} {j : Nat} {d : ByteArray} (h : l[j]? = some d) : keyB l j = (nameB d && beforeN l j d) := by
  unfold keyB
  rw [h]
theorem before_first {l : List ByteArray} {j : Nat} {s : ByteArray} (h : j = 0) : beforeN l j s = true := by subst h; rfl
theorem before_next {l : List ByteArray} {j j' : Nat} {s q : ByteArray} (h : j = j' + 1) (hq : l[j']? = some q) : beforeN l j s = Op.bytesLess q.toList s.toList := by
  subst h
  simp only [beforeN, hq]
theorem key_no {l : List ByteArray} {j : Nat} {d : ByteArray} (h : l[j]? = some d) (hn : nameB d = false) : ¬ KeyOk l j := by
  unfold KeyOk
  rw [key_eq h, hn]
  simp
theorem key_next {l : List ByteArray} {j j' : Nat} {d q : ByteArray} (hp : l[j]? = some d) (h1 : nameB d = true) (hj : j = j' + 1) (hq : l[j']? = some q) : KeyOk l j ↔ Op.bytesLess q.toList d.toList = true := by
  unfold KeyOk
  rw [key_eq hp, h1, before_next hj hq]
  simp
theorem key_first {l : List ByteArray} {j : Nat} {d : ByteArray} (hp : l[j]? = some d) (h1 : nameB d = true) (hj : ¬ 0 < j) : KeyOk l j := by
  unfold KeyOk
  rw [key_eq hp, h1, before_first (by omega)]
  rfl
theorem key_iff {l : List ByteArray} {k : Nat} {p s : ByteArray} (hp : l[k]? = some p) (h0 : k = 0 → s = ⟨#[]⟩) (hq : ∀ q, 0 < k → l[k - 1]? = some q → s = q) :
    KeyOk l k ↔ nameB p = true ∧ Op.bytesLess p.toList s.toList = false ∧ (p.toList == s.toList) = false := by
  by_cases hn : nameB p = true
  · by_cases e : k = 0
    · have hs := h0 e
      subst hs
      have h1 : (⟨#[]⟩ : ByteArray).toList = [] := by rw [ByteArray.toList_eq]
      have h2 : Op.bytesLess p.toList (⟨#[]⟩ : ByteArray).toList = false := by rw [h1]; cases p.toList <;> rfl
      have h3 : (p.toList == (⟨#[]⟩ : ByteArray).toList) = false := by
        rw [beq_eq_false_iff_ne]
        intro e2
        have := toList_inj e2
        have h1 := name_pos hn
        rw [this] at h1
        simp [ByteArray.size] at h1
      exact ⟨fun _ => ⟨hn, h2, h3⟩, fun _ => key_first hp hn (by omega)⟩
    · have hk : k < l.length := (List.getElem?_eq_some_iff.1 hp).1
      obtain ⟨q, hqq⟩ : ∃ q, l[k - 1]? = some q := ⟨_, List.getElem?_eq_getElem (by omega)⟩
      have hs := hq q (by omega) hqq
      subst hs
      rw [key_next hp hn (show k = k - 1 + 1 by omega) hqq]
      constructor
      · intro h
        refine ⟨hn, bl_asym _ _ h, ?_⟩
        rw [beq_eq_false_iff_ne]
        intro e2
        rw [e2, bl_irr] at h
        cases h
      · rintro ⟨_, h1, h2⟩
        exact bl_tri _ _ h1 (by rwa [beq_eq_false_iff_ne] at h2)
  · refine ⟨fun h => absurd h (key_no hp (by simpa using hn)), fun h => absurd h.1 hn⟩
def namesOf (l : List ValD) : List ByteArray := l.map fun d => d.1
theorem namesOf_len (l : List ValD) : (namesOf l).length = l.length := by simp [namesOf]
theorem namesOf_get {l : List ValD} {j : Nat} {d : ValD} (h : l[j]? = some d) : (namesOf l)[j]? = some d.1 := by simp [namesOf, h]
theorem namesOf_snoc (l : List ValD) (d : ValD) : namesOf (l ++ [d]) = namesOf l ++ [d.1] := by simp [namesOf]
/-- Good values. -/
abbrev ValsP (l : List ValD) : Prop := (∀ d ∈ l, d.2.2.size ≤ 100) ∧ KeysP 30 (namesOf l)
theorem sInG (x lo hi : Int) (w : World) : Calls Tryd.prog 24 #[.int .i64 x, .int .i64 lo, .int .i64 hi] w fun e w' => e = .returned (.bool (decide (lo ≤ x ∧ x ≤ hi))) ∧ w' = w := by
  go_enter Tryd.func24, Tryd.ntmps24
  go_wp2
  all_goals
    go_ret
    exact ⟨ret_bool (by first | (rw [Bool.eq_iff_iff]; simp; omega) | (simp; omega)), rfl⟩

end Go.Proofs.YtklgjhemcofhhaaDoor
