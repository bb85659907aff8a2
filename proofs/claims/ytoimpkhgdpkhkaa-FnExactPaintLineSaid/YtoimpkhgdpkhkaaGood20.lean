/-
  Which sheets are good, on both sides.
-/
import Derived.Test.YtoimpkhgdpkhkaaLeaf20
import Derived.Test.YtoimpkhgdpkhkaaSheet
namespace Go.Proofs.Ytoimpkhgdpkhkaa
open Go.ChangeShapes Go.WideShapes Go.ChangeAt Go.RowKit

set_option maxRecDepth 100000
set_option linter.unusedVariables false
set_option linter.unusedSimpArgs false

abbrev SheetP (c : SheetD) : Prop := (1 ≤ c.1 ∧ c.1 ≤ 24) ∧ (1 ≤ c.2.1 ∧ c.2.1 ≤ 24) ∧ (c.2.2.length : Int) = c.1 * c.2.1 ∧ ∀ p ∈ c.2.2, 0 ≤ p ∧ p ≤ 16777215
theorem mul_in {x y m k : Int} (h1 : 1 ≤ x) (h2 : x ≤ m) (h3 : 1 ≤ y) (h4 : y ≤ k) : 1 ≤ x * y ∧ x * y ≤ m * k := by
  have e1 : 1 * 1 ≤ x * y := Int.mul_le_mul h1 h3 (by omega) (by omega)
  have e2 : x * y ≤ m * k := Int.mul_le_mul h2 h4 (by omega) (by omega)
  omega
theorem all_at {l : List Int} (h : ∀ j, j < l.length → ∀ p, l[j]? = some p → 0 ≤ p ∧ p ≤ 16777215) : ∀ p ∈ l, 0 ≤ p ∧ p ≤ 16777215 := fun p hp => by
  obtain ⟨j, hj, e⟩ := List.mem_iff_getElem.1 hp
  exact h j hj p (by rw [List.getElem?_eq_getElem hj, e])

set_option maxHeartbeats 4000000 in
theorem sgood (c : SheetD) (v : Value) (w : World) (hv : SheetAt w v c) (hn : c.2.2.length ≤ 9000000000000000000) :
    Calls Try.prog 23 #[v] w fun e w' => e = .returned (.bool (decide (SheetP c))) ∧ Kept w w' := by
  obtain ⟨ao, cap, hfm⟩ := hv.form
  subst hfm
  have hr := hv.row
  have NO : Hid (¬ SheetP c → decide (SheetP c) = false) := fun h => decide_eq_false h
  have YES : Hid (SheetP c → decide (SheetP c) = true) := fun h => decide_eq_true h
  generalize decide (SheetP c) = R at *
  rcases (Decidable.em (1 ≤ c.1 ∧ c.1 ≤ 24)).symm with h1 | h1
  · have d1 : decide (1 ≤ c.1 ∧ c.1 ≤ 24) = false := decide_eq_false h1
    rw [NO.out (fun h => h1 h.1)]
    go_enter Try.func23, Try.ntmps23
    repeat (first | (go_at_call 35; refine (sInG _ _ _ _).mono ?_; rintro e w3 ⟨rfl, hw3⟩; rw [hw3]; clear hw3 w3; (first | rw [d1]); dsimp only) | go_values | go_skip | go_guarded | go_step | go_upon)
    go_ret
    exact ⟨rfl, (But.refl _ _ _).alloc _⟩
  have d1 : decide (1 ≤ c.1 ∧ c.1 ≤ 24) = true := decide_eq_true h1
  rcases (Decidable.em (1 ≤ c.2.1 ∧ c.2.1 ≤ 24)).symm with h2 | h2
  · have d2 : decide (1 ≤ c.2.1 ∧ c.2.1 ≤ 24) = false := decide_eq_false h2
    rw [NO.out (fun h => h2 h.2.1)]
    go_enter Try.func23, Try.ntmps23
    repeat (first | (go_at_call 35; refine (sInG _ _ _ _).mono ?_; rintro e w3 ⟨rfl, hw3⟩; rw [hw3]; clear hw3 w3; (first | rw [d1] | rw [d2]); dsimp only) | go_values | go_skip | go_guarded | go_step | go_upon)
    go_ret
    exact ⟨rfl, (But.refl _ _ _).alloc _⟩
  have d2 : decide (1 ≤ c.2.1 ∧ c.2.1 ≤ 24) = true := decide_eq_true h2
  obtain ⟨m1, m2⟩ := mul_in h1.1 h1.2 h2.1 h2.2
  by_cases h4 : (c.2.2.length : Int) = c.1 * c.2.1
  · have d4' : ((c.2.2.length : Int) == c.1 * c.2.1) = true := by rw [← h4]; simp
    have d4 : c.1 * c.2.1 = (c.2.2.length : Int) := h4.symm
    have H4 : Hid _ := And.intro h1 (And.intro h2 h4)
    clear h4
    go_enter Try.func23, Try.ntmps23
    repeat (first | (go_at_call 35; refine (sInG _ _ _ _).mono ?_; rintro e w3 ⟨rfl, hw3⟩; rw [hw3]; clear hw3 w3; (first | rw [d1] | rw [d2]); dsimp only) | go_values | go_skip | go_guarded | go_step | go_upon)
    clear d1 d2 d4 d4' m1 m2 h1 h2
    go_loopw [29] (fun i wr => ∃ k : Nat, k ≤ c.2.2.length ∧ i = .int .i64 k ∧ Hid (∀ j, j < k → ∀ p, c.2.2[j]? = some p → 0 ≤ p ∧ p ≤ 16777215) ∧ Kept w wr) (fun i _ => c.2.2.length - (intOf i).toNat)
    case atStart => exact ⟨0, by omega, rfl, fun j hj => by omega, (But.refl _ _ _).alloc _⟩
    case round =>
      obtain ⟨k, hk, rfl, HB, hkp⟩ := hrel
      by_cases hlt : k < c.2.2.length
      · obtain ⟨p, hp⟩ : ∃ p, c.2.2[k]? = some p := ⟨_, List.getElem?_eq_getElem hlt⟩
        obtain ⟨g, o, cap1, ee, c0⟩ := num_get (hr.kept hkp) hp
        cases ee
        have HK : Hid (Kept w wr) := hkp
        have HP : Hid (c.2.2[k]? = some p) := hp
        clear hkp hp hr hv
        cases q : decide (0 ≤ p ∧ p ≤ 16777215) with
        | false =>
          have hF := NO.out (fun h => of_decide_eq_false q (h.2.2.2 p (List.mem_of_getElem? HP.out)))
          subst hF
          repeat (first | (go_at_call 43; refine (scolor _ _).mono ?_; rintro e w3 ⟨rfl, hw3⟩; rw [hw3]; clear hw3 w3; rw [q]; dsimp only) | go_values | go_skip | go_guarded | go_step | go_upon)
          go_ret
          exact ⟨rfl, HK.out⟩
        | true =>
          repeat (first | (go_at_call 43; refine (scolor _ _).mono ?_; rintro e w3 ⟨rfl, hw3⟩; rw [hw3]; clear hw3 w3; rw [q]; dsimp only) | go_values | go_skip | go_guarded | go_step | go_upon)
          refine ⟨⟨k + 1, hlt, by go_num, ?_, HK.out⟩, by simp [intOf]; omega⟩
          intro j hj p2 hp
          by_cases hjk : j = k
          · subst hjk
            rw [HP.out] at hp
            cases hp
            exact of_decide_eq_true q
          · exact HB.out j (by omega) p2 hp
      · have hke : k = c.2.2.length := by omega
        subst hke
        have HKP : Hid (Kept w wr) := hkp
        clear hkp
        obtain ⟨h1, h2, h4⟩ := H4.out
        have hT := YES.out ⟨h1, h2, h4, all_at HB.out⟩
        subst hT
        clear h4 h1 h2
        go_wp2
        go_ret
        exact ⟨rfl, HKP.out⟩
  · have d4 : ((c.2.2.length : Int) == c.1 * c.2.1) = false := by simpa using h4
    rw [NO.out (fun h => h4 h.2.2.1)]
    go_enter Try.func23, Try.ntmps23
    repeat (first | (go_at_call 35; refine (sInG _ _ _ _).mono ?_; rintro e w3 ⟨rfl, hw3⟩; rw [hw3]; clear hw3 w3; (first | rw [d1] | rw [d2]); dsimp only) | go_values | go_skip | go_guarded | go_step | go_upon)
    go_ret
    exact ⟨rfl, (But.refl _ _ _).alloc _⟩

set_option maxHeartbeats 4000000 in
theorem igood (c : SheetD) (v : Value) (w : World) (hv : SheetAt w v c) (hn : c.2.2.length ≤ 9000000000000000000) :
    Calls Try.prog 25 #[v] w fun e w' => e = .returned (.bool (decide (SheetP c))) ∧ Kept w w' := by
  obtain ⟨ao, cap, hfm⟩ := hv.form
  subst hfm
  have hr := hv.row
  have NO : Hid (¬ SheetP c → decide (SheetP c) = false) := fun h => decide_eq_false h
  have YES : Hid (SheetP c → decide (SheetP c) = true) := fun h => decide_eq_true h
  generalize decide (SheetP c) = R at *
  rcases (Decidable.em (1 ≤ c.1 ∧ c.1 ≤ 24)).symm with h1 | h1
  · have d1 : decide (1 ≤ c.1 ∧ c.1 ≤ 24) = false := decide_eq_false h1
    rw [NO.out (fun h => h1 h.1)]
    go_enter Try.func25, Try.ntmps25
    repeat (first | (go_at_call 45; refine (iside _ _).mono ?_; rintro e w3 ⟨rfl, hw3⟩; rw [hw3]; clear hw3 w3; (first | rw [d1]); dsimp only) | go_values | go_skip | go_guarded | go_step | go_upon)
    go_ret
    exact ⟨rfl, (But.refl _ _ _).alloc _⟩
  have d1 : decide (1 ≤ c.1 ∧ c.1 ≤ 24) = true := decide_eq_true h1
  rcases (Decidable.em (1 ≤ c.2.1 ∧ c.2.1 ≤ 24)).symm with h2 | h2
  · have d2 : decide (1 ≤ c.2.1 ∧ c.2.1 ≤ 24) = false := decide_eq_false h2
    rw [NO.out (fun h => h2 h.2.1)]
    go_enter Try.func25, Try.ntmps25
    repeat (first | (go_at_call 45; refine (iside _ _).mono ?_; rintro e w3 ⟨rfl, hw3⟩; rw [hw3]; clear hw3 w3; (first | rw [d1] | rw [d2]); dsimp only) | go_values | go_skip | go_guarded | go_step | go_upon)
    go_ret
    exact ⟨rfl, (But.refl _ _ _).alloc _⟩
  have d2 : decide (1 ≤ c.2.1 ∧ c.2.1 ≤ 24) = true := decide_eq_true h2
  obtain ⟨m1, m2⟩ := mul_in h1.1 h1.2 h2.1 h2.2
  by_cases h4 : (c.2.2.length : Int) = c.1 * c.2.1
  · have d4' : ((c.2.2.length : Int) == c.1 * c.2.1) = true := by rw [← h4]; simp
    have d4 : c.1 * c.2.1 = (c.2.2.length : Int) := h4.symm
    have H4 : Hid _ := And.intro h1 (And.intro h2 h4)
    clear h4
    go_enter Try.func25, Try.ntmps25
    repeat (first | (go_at_call 45; refine (iside _ _).mono ?_; rintro e w3 ⟨rfl, hw3⟩; rw [hw3]; clear hw3 w3; (first | rw [d1] | rw [d2]); dsimp only) | go_values | go_skip | go_guarded | go_step | go_upon)
    clear d1 d2 d4 d4' m1 m2 h1 h2
    go_loopw [29] (fun i wr => ∃ k : Nat, k ≤ c.2.2.length ∧ i = .int .i64 k ∧ Hid (∀ j, j < k → ∀ p, c.2.2[j]? = some p → 0 ≤ p ∧ p ≤ 16777215) ∧ Kept w wr) (fun i _ => c.2.2.length - (intOf i).toNat)
    case atStart => exact ⟨0, by omega, rfl, fun j hj => by omega, (But.refl _ _ _).alloc _⟩
    case round =>
      obtain ⟨k, hk, rfl, HB, hkp⟩ := hrel
      by_cases hlt : k < c.2.2.length
      · obtain ⟨p, hp⟩ : ∃ p, c.2.2[k]? = some p := ⟨_, List.getElem?_eq_getElem hlt⟩
        obtain ⟨g, o, cap1, ee, c0⟩ := num_get (hr.kept hkp) hp
        cases ee
        have HK : Hid (Kept w wr) := hkp
        have HP : Hid (c.2.2[k]? = some p) := hp
        clear hkp hp hr hv
        cases q : decide (0 ≤ p ∧ p ≤ 16777215) with
        | false =>
          have hF := NO.out (fun h => of_decide_eq_false q (h.2.2.2 p (List.mem_of_getElem? HP.out)))
          subst hF
          repeat (first | (go_at_call 46; refine (icolor _ _).mono ?_; rintro e w3 ⟨rfl, hw3⟩; rw [hw3]; clear hw3 w3; rw [q]; dsimp only) | go_values | go_skip | go_guarded | go_step | go_upon)
          go_ret
          exact ⟨rfl, HK.out⟩
        | true =>
          repeat (first | (go_at_call 46; refine (icolor _ _).mono ?_; rintro e w3 ⟨rfl, hw3⟩; rw [hw3]; clear hw3 w3; rw [q]; dsimp only) | go_values | go_skip | go_guarded | go_step | go_upon)
          refine ⟨⟨k + 1, hlt, by go_num, ?_, HK.out⟩, by simp [intOf]; omega⟩
          intro j hj p2 hp
          by_cases hjk : j = k
          · subst hjk
            rw [HP.out] at hp
            cases hp
            exact of_decide_eq_true q
          · exact HB.out j (by omega) p2 hp
      · have hke : k = c.2.2.length := by omega
        subst hke
        have HKP : Hid (Kept w wr) := hkp
        clear hkp
        obtain ⟨h1, h2, h4⟩ := H4.out
        have hT := YES.out ⟨h1, h2, h4, all_at HB.out⟩
        subst hT
        clear h4 h1 h2
        go_wp2
        go_ret
        exact ⟨rfl, HKP.out⟩
  · have d4 : ((c.2.2.length : Int) == c.1 * c.2.1) = false := by simpa using h4
    rw [NO.out (fun h => h4 h.2.2.1)]
    go_enter Try.func25, Try.ntmps25
    repeat (first | (go_at_call 45; refine (iside _ _).mono ?_; rintro e w3 ⟨rfl, hw3⟩; rw [hw3]; clear hw3 w3; (first | rw [d1] | rw [d2]); dsimp only) | go_values | go_skip | go_guarded | go_step | go_upon)
    go_ret
    exact ⟨rfl, (But.refl _ _ _).alloc _⟩

end Go.Proofs.Ytoimpkhgdpkhkaa
