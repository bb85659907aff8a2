/-
  ShareRoom of the program.
-/
import Derived.Test.YtaofilinejanjaaDoorRoomP18
namespace Go.Proofs.YtaofilinejanjaaDoor
open Go.ChangeShapes Go.WideShapes Go.ChangeAt Go.RowKit

set_option maxRecDepth 100000
set_option linter.unusedVariables false

set_option maxHeartbeats 8000000 in
theorem iroomS (room : Int) (least grow : List Int) (vl vg : Value) (w : World) (hvl : NumAt w vl least) (hvg : NumAt w vg grow) (hl1 : least.length ≤ 1048576) (hl2 : grow.length ≤ 1048576) :
    Calls Tryd.prog 6 #[.int .i64 room, vl, vg] w fun e w' => ∃ v, e = .returned (.tuple #[v, .bool (roomA room least grow).2]) ∧ NumO w' w.heap.size w'.heap.size v (roomA room least grow).1 ∧ Kept w w' := by
  have hvl0 := hvl
  have hvg0 := hvg
  obtain ⟨aol, capl, hsl⟩ := row_nil hvl
  subst hsl
  obtain ⟨aog, capg, hsg⟩ := row_nil hvg
  rcases (Decidable.em (0 ≤ room ∧ room ≤ 10000)).symm with h1 | h1
  · have dr : decide (0 ≤ room ∧ room ≤ 10000) = false := decide_eq_false h1
    rw [roomA_no (fun h => h1 h.1)]
    subst hsg
    go_enter Tryd.func6, Tryd.ntmps6
    repeat (first | (go_at_call 22; refine (iroom _ _).mono ?_; rintro e w3 ⟨rfl, hw3⟩; rw [hw3]; clear hw3 w3; (first | rw [da] | rw [dr]); dsimp only) | (go_at_call 23; refine (igrow _ _).mono ?_; rintro e w3 ⟨rfl, hw3⟩; rw [hw3]; clear hw3 w3; rw [dp]; dsimp only) | go_values | go_skip | go_guarded | go_step | go_upon)
    go_ret2
    exact ⟨_, rfl, nil_num _ _ _, But.refl _ _ _⟩
  have dr : decide (0 ≤ room ∧ room ≤ 10000) = true := decide_eq_true h1
  by_cases h3 : grow.length = least.length
  case neg =>
    have d3 : ((grow.length : Int) != (least.length : Int)) = true := by simp; omega
    have d3a : (grow.length != least.length) = true := by simp; omega
    have d3b : ((least.length : Int) != (grow.length : Int)) = true := by simp; omega
    have d3c : (least.length != grow.length) = true := by simp; omega
    rw [roomA_no (fun h => h3 h.2.2.1)]
    go_enter Tryd.func6, Tryd.ntmps6
    repeat (first | (go_at_call 22; refine (iroom _ _).mono ?_; rintro e w3 ⟨rfl, hw3⟩; rw [hw3]; clear hw3 w3; (first | rw [da] | rw [dr]); dsimp only) | (go_at_call 23; refine (igrow _ _).mono ?_; rintro e w3 ⟨rfl, hw3⟩; rw [hw3]; clear hw3 w3; rw [dp]; dsimp only) | go_values | go_skip | go_guarded | go_step | go_upon)
    go_ret2
    exact ⟨_, rfl, nil_num _ _ _, But.refl _ _ _⟩
  rw [h3] at hsg
  subst hsg
  by_cases h2 : 40 < least.length
  · have d2 : decide ((40 : Int) < (least.length : Int)) = true := decide_eq_true (by omega)
    rw [roomA_no (fun h => by have := h.2.1; omega)]
    go_enter Tryd.func6, Tryd.ntmps6
    repeat (first | (go_at_call 22; refine (iroom _ _).mono ?_; rintro e w3 ⟨rfl, hw3⟩; rw [hw3]; clear hw3 w3; (first | rw [da] | rw [dr]); dsimp only) | (go_at_call 23; refine (igrow _ _).mono ?_; rintro e w3 ⟨rfl, hw3⟩; rw [hw3]; clear hw3 w3; rw [dp]; dsimp only) | go_values | go_skip | go_guarded | go_step | go_upon)
    go_ret2
    exact ⟨_, rfl, nil_num _ _ _, But.refl _ _ _⟩
  have d2 : decide ((40 : Int) < (least.length : Int)) = false := decide_eq_false (by omega)
  have NO : Hid (¬ RoomOk room least grow → roomA room least grow = ([], false)) := fun h => roomA_no h
  have YES : Hid (RoomOk room least grow → roomA room least grow = (shA room least grow, true)) := fun h => roomA_yes h
  have HH1 : Hid (0 ≤ room ∧ room ≤ 10000) := h1
  have HH3 : Hid (grow.length = least.length) := h3
  generalize roomA room least grow = R at *
  clear h3
  go_enter Tryd.func6, Tryd.ntmps6
  repeat (first | (go_at_call 22; refine (iroom _ _).mono ?_; rintro e w3 ⟨rfl, hw3⟩; rw [hw3]; clear hw3 w3; (first | rw [da] | rw [dr]); dsimp only) | (go_at_call 23; refine (igrow _ _).mono ?_; rintro e w3 ⟨rfl, hw3⟩; rw [hw3]; clear hw3 w3; rw [dp]; dsimp only) | go_values | go_skip | go_guarded | go_step | go_upon)
  clear d2 dr
  go_loopw [26] (fun i wr => ∃ (k : Nat), k ≤ least.length ∧ i = .int .i64 k ∧ Hid (∀ j, j < k → ∀ a p, least[j]? = some a → grow[j]? = some p → (0 ≤ a ∧ a ≤ 10000) ∧ (0 ≤ p ∧ p ≤ 1000)) ∧ wr = w) (fun i _ => least.length - (intOf i).toNat)
  case atStart => exact ⟨0, by omega, rfl, (fun j hj => by omega : ∀ j, j < 0 → ∀ a p, least[j]? = some a → grow[j]? = some p → (0 ≤ a ∧ a ≤ 10000) ∧ (0 ≤ p ∧ p ≤ 1000)), rfl⟩
  case round =>
    obtain ⟨j, hk, rfl, HB, hwr⟩ := hrel
    rw [hwr]
    clear hwr
    by_cases hlt : j < least.length
    · obtain ⟨a, ha⟩ : ∃ p, least[j]? = some p := ⟨_, List.getElem?_eq_getElem hlt⟩
      obtain ⟨p, hp⟩ : ∃ p, grow[j]? = some p := ⟨_, List.getElem?_eq_getElem (by have := HH3.out; omega)⟩
      obtain ⟨b, o, cap', ee, c0⟩ := num_get hvl0 ha
      cases ee
      obtain ⟨b2, o2, cap2, ee, c2⟩ := num_get hvg0 hp
      rw [HH3.out] at ee
      cases ee
      have z1 : (0 : Int) ≤ (j : Int) := by omega
      have z2 : (j : Int) < (least.length : Int) := by omega
      rcases (Decidable.em (0 ≤ a ∧ a ≤ 10000)).symm with q1 | q1
      · have da : decide (0 ≤ a ∧ a ≤ 10000) = false := decide_eq_false q1
        have hR := NO.out (fun h => q1 (h.2.2.2.1 a (List.mem_of_getElem? ha)))
        subst hR
        clear ha hp
        repeat (first | (go_at_call 22; refine (iroom _ _).mono ?_; rintro e w3 ⟨rfl, hw3⟩; rw [hw3]; clear hw3 w3; (first | rw [da] | rw [dr]); dsimp only) | (go_at_call 23; refine (igrow _ _).mono ?_; rintro e w3 ⟨rfl, hw3⟩; rw [hw3]; clear hw3 w3; rw [dp]; dsimp only) | go_values | go_skip | go_guarded | go_step | go_upon)
        go_ret2
        exact ⟨_, rfl, nil_num _ _ _, But.refl _ _ _⟩
      have da : decide (0 ≤ a ∧ a ≤ 10000) = true := decide_eq_true q1
      rcases (Decidable.em (0 ≤ p ∧ p ≤ 1000)).symm with q2 | q2
      · have dp : decide (0 ≤ p ∧ p ≤ 1000) = false := decide_eq_false q2
        have hR := NO.out (fun h => q2 (h.2.2.2.2 p (List.mem_of_getElem? hp)))
        subst hR
        clear ha hp
        repeat (first | (go_at_call 22; refine (iroom _ _).mono ?_; rintro e w3 ⟨rfl, hw3⟩; rw [hw3]; clear hw3 w3; (first | rw [da] | rw [dr]); dsimp only) | (go_at_call 23; refine (igrow _ _).mono ?_; rintro e w3 ⟨rfl, hw3⟩; rw [hw3]; clear hw3 w3; rw [dp]; dsimp only) | go_values | go_skip | go_guarded | go_step | go_upon)
        go_ret2
        exact ⟨_, rfl, nil_num _ _ _, But.refl _ _ _⟩
      have dp : decide (0 ≤ p ∧ p ≤ 1000) = true := decide_eq_true q2
      have I : Hid (∀ i, i < j + 1 → ∀ a p, least[i]? = some a → grow[i]? = some p → (0 ≤ a ∧ a ≤ 10000) ∧ (0 ≤ p ∧ p ≤ 1000)) := all_more HB.out (fun a' p' h1 h2 => by
        rw [ha] at h1
        rw [hp] at h2
        cases h1
        cases h2
        exact ⟨q1, q2⟩)
      clear ha hp
      repeat (first | (go_at_call 22; refine (iroom _ _).mono ?_; rintro e w3 ⟨rfl, hw3⟩; rw [hw3]; clear hw3 w3; (first | rw [da] | rw [dr]); dsimp only) | (go_at_call 23; refine (igrow _ _).mono ?_; rintro e w3 ⟨rfl, hw3⟩; rw [hw3]; clear hw3 w3; rw [dp]; dsimp only) | go_values | go_skip | go_guarded | go_step | go_upon)
      exact ⟨⟨j + 1, hlt, by go_num, I, by trivial⟩, by simp [intOf]; omega⟩
    · have hke : j = least.length := by omega
      have hok : ShP least grow := by
        refine ⟨by omega, HH3.out, fun x hx => ?_, fun x hx => ?_⟩
        · obtain ⟨i, hi⟩ := List.mem_iff_getElem?.1 hx
          have hil := (List.getElem?_eq_some_iff.1 hi).1
          obtain ⟨p, hp⟩ : ∃ p, grow[i]? = some p := ⟨_, List.getElem?_eq_getElem (by have := HH3.out; omega)⟩
          exact (HB.out i (by omega) x p hi hp).1
        · obtain ⟨i, hi⟩ := List.mem_iff_getElem?.1 hx
          have hil := (List.getElem?_eq_some_iff.1 hi).1
          obtain ⟨a, ha⟩ : ∃ p, least[i]? = some p := ⟨_, List.getElem?_eq_getElem (by have := HH3.out; omega)⟩
          exact (HB.out i (by have := HH3.out; omega) a x ha hi).2
      have hR := YES.out ⟨HH1.out, hok⟩
      subst hR
      have AS : Hid (∀ W, W = w → Calls Tryd.prog 24 #[.int .i64 room, .slice aol least.length capl, .slice aog least.length capg] W fun e w' => ∃ v, e = .returned v ∧ NumO w' W.heap.size w'.heap.size v (shA room least grow) ∧ Kept W w') := fun W e => by
        subst e
        exact ishares room least grow _ _ W hvl0 hvg0 hok HH1.out
      subst hke
      clear hok HB hlt
      repeat (first | go_values | go_skip | go_guarded | go_step | go_upon)
      go_at_call 24
      refine (AS.out _ rfl).mono ?_
      rintro e w3 ⟨v3, rfl, ho, k3⟩
      have HO : Hid (NumO w3 w.heap.size w3.heap.size v3 (shA room least grow)) := ho
      have HK : Hid (Kept w w3) := k3
      clear ho k3 AS
      dsimp only
      repeat (first | go_values | go_skip | go_guarded | go_step | go_upon)
      go_ret2
      exact ⟨_, rfl, HO.out, HK.out⟩

end Go.Proofs.YtaofilinejanjaaDoor
