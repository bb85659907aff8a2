/-
  Good changes, as plain data; what goodChange answers.
-/
import Derived.Test.YtklgjhemcofhhaaDoorLeaf22
import Derived.Test.YtklgjhemcofhhaaDoorChg
namespace Go.Proofs.YtklgjhemcofhhaaDoor
open Go.ChangeShapes Go.WideShapes Go.ChangeAt Go.RowKit

set_option maxRecDepth 100000
set_option linter.unusedVariables false
set_option linter.unusedSimpArgs false

def emptyB (s : ByteArray) : Bool := s.toList.isEmpty
/-- A good change, whatever version it is from. -/
def changeB (f1 : Int) (f2 f3 : ByteArray) (f4 : Int) : Bool := nameB f2 && (decide (-1000000 ≤ f4) && (decide (f4 ≤ 1000000) && (if f1 = 1 then nameB f3 && decide (f4 = 0) else if f1 = 4 then emptyB f3 && decide (f4 = 0) else decide (f1 = 2 ∨ f1 = 3 ∨ f1 = 5) && emptyB f3)))
def fromB (l : List ChgD) (j : Nat) (f : Int) : Bool := match j with
  | 0 => true
  | j' + 1 => match l[j']? with
    | none => true
    | some q => decide (q.1 ≤ f)
def rowC (l : List ChgD) (j : Nat) : Bool := match l[j]? with
  | none => true
  | some d => decide (1 ≤ d.1 ∧ d.1 ≤ 2) && (fromB l j d.1 && changeB d.2.1 d.2.2.1 d.2.2.2.1 d.2.2.2.2)
abbrev ChgsP (l : List ChgD) : Prop := l.length ≤ 30 ∧ ∀ j, j < l.length → rowC l j = true
theorem rowC_eq {l : List ChgD} {j : Nat} {d : ChgD} (h : l[j]? = some d) : rowC l j = (decide (1 ≤ d.1 ∧ d.1 ≤ 2) && (fromB l j d.1 && changeB d.2.1 d.2.2.1 d.2.2.2.1 d.2.2.2.2)) := by
  unfold rowC
  rw [h]
theorem from_first {l : List ChgD} {j : Nat} {f : Int} (h : j = 0) : fromB l j f = true := by subst h; rfl
theorem from_next {l : List ChgD} {j j' : Nat} {f : Int} {q : ChgD} (h : j = j' + 1) (hq : l[j']? = some q) : fromB l j f = decide (q.1 ≤ f) := by
  subst h
  simp only [fromB, hq]
theorem from_last {l : List ChgD} {k : Nat} {d : ChgD} {m : Int} (hp : l[k]? = some d) (h0 : k = 0 → m = 1) (hq : ∀ q, 0 < k → l[k - 1]? = some q → m = q.1 ∧ 1 ≤ q.1) :
    (decide (1 ≤ d.1 ∧ d.1 ≤ 2) && fromB l k d.1) = decide (m ≤ d.1 ∧ d.1 < 3) := by
  by_cases e : k = 0
  · have hm := h0 e
    rw [from_first e, Bool.and_true]
    apply decide_eq_decide.2
    omega
  · have hk : k < l.length := (List.getElem?_eq_some_iff.1 hp).1
    obtain ⟨q, hqq⟩ : ∃ q, l[k - 1]? = some q := ⟨_, List.getElem?_eq_getElem (by omega)⟩
    obtain ⟨hm, h1⟩ := hq q (by omega) hqq
    rw [from_next (show k = k - 1 + 1 by omega) hqq, ← Bool.decide_and]
    apply decide_eq_decide.2
    omega

set_option maxHeartbeats 4000000 in
theorem ichange (f0 f1 : Int) (f2 f3 : ByteArray) (f4 : Int) (w : World) (hs : f2.size ≤ 1048576 ∧ f3.size ≤ 1048576) : Calls Tryd.prog 66 #[.agg #[.int .i64 f0, .int .i64 f1, .string f2, .string f3, .int .i64 f4]] w fun e w' => e = .returned (.bool (changeB f1 f2 f3 f4)) ∧ Kept w w' := by
  obtain ⟨R, hR⟩ : ∃ R : Bool, changeB f1 f2 f3 f4 = R := ⟨_, rfl⟩
  rw [hR]
  have HR : Hid (changeB f1 f2 f3 f4 = R) := hR
  clear hR
  have AN : Hid (∀ W, Calls Tryd.prog 80 #[.string f2] W fun e w' => e = .returned (.bool (nameB f2)) ∧ w' = W) := fun W => iname f2 W hs.1
  have AM : Hid (∀ W, Calls Tryd.prog 80 #[.string f3] W fun e w' => e = .returned (.bool (nameB f3)) ∧ w' = W) := fun W => iname f3 W hs.2
  clear hs
  cases q0 : nameB f2 with
  | false =>
    have hF : R = false := by rw [← HR.out]; unfold changeB; rw [q0]; rfl
    subst hF
    rw [q0] at AN
    go_enter Tryd.func66, Tryd.ntmps66
    repeat (first | (go_at_call 80; with_reducible refine (AN.out _).mono ?_; rintro e w3 ⟨rfl, hw3⟩; rw [hw3]; clear hw3 w3; dsimp only) | go_values | go_skip | go_guarded | go_step | go_upon)
    go_ret
    exact ⟨rfl, (But.refl _ _ _).alloc _⟩
  | true =>
    rw [q0] at AN
    rcases (Decidable.em (-1000000 ≤ f4)).symm with h1 | h1
    · have d1 : decide (f4 < -1000000) = true := decide_eq_true (by omega)
      have hF : R = false := by rw [← HR.out]; unfold changeB; rw [decide_eq_false h1]; simp
      subst hF
      clear h1
      go_enter Tryd.func66, Tryd.ntmps66
      repeat (first | (go_at_call 80; with_reducible refine (AN.out _).mono ?_; rintro e w3 ⟨rfl, hw3⟩; rw [hw3]; clear hw3 w3; dsimp only) | go_values | go_skip | go_guarded | go_step | go_upon)
      go_ret
      exact ⟨rfl, (But.refl _ _ _).alloc _⟩
    have d1 : decide (f4 < -1000000) = false := decide_eq_false (by omega)
    rcases (Decidable.em (f4 ≤ 1000000)).symm with h2 | h2
    · have d2 : decide (1000000 < f4) = true := decide_eq_true (by omega)
      have hF : R = false := by rw [← HR.out]; unfold changeB; rw [decide_eq_false h2]; simp
      subst hF
      clear h1 h2
      go_enter Tryd.func66, Tryd.ntmps66
      repeat (first | (go_at_call 80; with_reducible refine (AN.out _).mono ?_; rintro e w3 ⟨rfl, hw3⟩; rw [hw3]; clear hw3 w3; dsimp only) | go_values | go_skip | go_guarded | go_step | go_upon)
      go_ret
      exact ⟨rfl, (But.refl _ _ _).alloc _⟩
    have d2 : decide (1000000 < f4) = false := decide_eq_false (by omega)
    have HR2 : Hid ((if f1 = 1 then nameB f3 && decide (f4 = 0) else if f1 = 4 then emptyB f3 && decide (f4 = 0) else decide (f1 = 2 ∨ f1 = 3 ∨ f1 = 5) && emptyB f3) = R) := by
      show _ = _
      rw [← HR.out]
      unfold changeB
      rw [q0, decide_eq_true h1, decide_eq_true h2]
      rfl
    clear h1 h2 HR
    obtain ⟨z, hz⟩ : ∃ z : Bool, (f4 == 0) = z := ⟨_, rfl⟩
    have HZ : Hid (decide (f4 = 0) = z) := by show _ = _; rw [← hz]; rfl
    obtain ⟨y, hy⟩ : ∃ y : Bool, f3.toList.isEmpty = y := ⟨_, rfl⟩
    have HY : Hid (emptyB f3 = y) := hy
    by_cases e1 : f1 = 1
    · subst e1
      have hR := HR2.out
      rw [if_pos rfl, HZ.out] at hR
      have AR : Hid ((nameB f3 && z) = R) := hR
      clear hR HR2 HY hy
      cases q1 : nameB f3 with
      | false =>
        have hF : R = false := by rw [← AR.out, q1]; rfl
        subst hF
        clear AR
        rw [q1] at AM
        go_enter Tryd.func66, Tryd.ntmps66
        repeat (first | (go_at_call 80; with_reducible refine (AN.out _).mono ?_; rintro e w3 ⟨rfl, hw3⟩; rw [hw3]; clear hw3 w3; dsimp only) | (go_at_call 80; with_reducible refine (AM.out _).mono ?_; rintro e w3 ⟨rfl, hw3⟩; rw [hw3]; clear hw3 w3; dsimp only) | go_values | go_skip | go_guarded | go_step | go_upon)
        go_ret
        exact ⟨rfl, (But.refl _ _ _).alloc _⟩
      | true =>
        have hF : z = R := by rw [← AR.out, q1]; rfl
        subst hF
        clear AR
        rw [q1] at AM
        go_enter Tryd.func66, Tryd.ntmps66
        repeat (first | (go_at_call 80; with_reducible refine (AN.out _).mono ?_; rintro e w3 ⟨rfl, hw3⟩; rw [hw3]; clear hw3 w3; dsimp only) | (go_at_call 80; with_reducible refine (AM.out _).mono ?_; rintro e w3 ⟨rfl, hw3⟩; rw [hw3]; clear hw3 w3; dsimp only) | go_values | go_skip | go_guarded | go_step | go_upon)
        go_ret
        exact ⟨rfl, (But.refl _ _ _).alloc _⟩
    have n1 : (f1 == 1) = false := by simpa using e1
    by_cases e4 : f1 = 4
    · subst e4
      have hR := HR2.out
      rw [if_neg (by decide), if_pos rfl, HZ.out, HY.out] at hR
      have AR : Hid ((y && z) = R) := hR
      clear hR HR2 HY HZ
      cases y with
      | false =>
        have hF : R = false := by rw [← AR.out]; rfl
        subst hF
        clear AR
        go_enter Tryd.func66, Tryd.ntmps66
        repeat (first | (go_at_call 80; with_reducible refine (AN.out _).mono ?_; rintro e w3 ⟨rfl, hw3⟩; rw [hw3]; clear hw3 w3; dsimp only) | go_values | go_skip | go_guarded | go_step | go_upon)
        go_ret
        exact ⟨rfl, (But.refl _ _ _).alloc _⟩
      | true =>
        have hF : z = R := by rw [← AR.out]; rfl
        subst hF
        clear AR
        go_enter Tryd.func66, Tryd.ntmps66
        repeat (first | (go_at_call 80; with_reducible refine (AN.out _).mono ?_; rintro e w3 ⟨rfl, hw3⟩; rw [hw3]; clear hw3 w3; dsimp only) | go_values | go_skip | go_guarded | go_step | go_upon)
        go_ret
        exact ⟨rfl, (But.refl _ _ _).alloc _⟩
    have n4 : (f1 == 4) = false := by simpa using e4
    have hR := HR2.out
    rw [if_neg e1, if_neg e4, HY.out] at hR
    have AR : Hid ((decide (f1 = 2 ∨ f1 = 3 ∨ f1 = 5) && y) = R) := hR
    clear hR HR2 HY HZ e1 e4
    by_cases e5 : f1 = 2 ∨ f1 = 3 ∨ f1 = 5
    · have hF : y = R := by rw [← AR.out, decide_eq_true e5]; rfl
      subst hF
      clear AR
      rcases e5 with rfl | rfl | rfl
      all_goals
        clear n1 n4
        go_enter Tryd.func66, Tryd.ntmps66
        repeat (first | (go_at_call 80; with_reducible refine (AN.out _).mono ?_; rintro e w3 ⟨rfl, hw3⟩; rw [hw3]; clear hw3 w3; dsimp only) | go_values | go_skip | go_guarded | go_step | go_upon)
        go_ret
        exact ⟨rfl, (But.refl _ _ _).alloc _⟩
    · have hF : R = false := by rw [← AR.out, decide_eq_false e5]; rfl
      subst hF
      have n2 : (f1 == 2) = false := by simp; omega
      have n3 : (f1 == 3) = false := by simp; omega
      have n5 : (f1 == 5) = false := by simp; omega
      clear AR e5
      go_enter Tryd.func66, Tryd.ntmps66
      repeat (first | (go_at_call 80; with_reducible refine (AN.out _).mono ?_; rintro e w3 ⟨rfl, hw3⟩; rw [hw3]; clear hw3 w3; dsimp only) | go_values | go_skip | go_guarded | go_step | go_upon)
      go_ret
      exact ⟨rfl, (But.refl _ _ _).alloc _⟩

end Go.Proofs.YtklgjhemcofhhaaDoor
