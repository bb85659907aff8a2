/-
  Chords as they must be.
-/
import Derived.Test.YthkfpbknfjapaaaBindP17
namespace Go.Proofs.Ythkfpbknfjapaaa
open Go.ChangeShapes Go.WideShapes Go.ChangeAt Go.RowKit

set_option maxRecDepth 100000
set_option linter.unusedVariables false
set_option maxHeartbeats 4000000 in
theorem irise (s : Int) (l : List Int) (ao : Option Addr) (cap : Nat) (w : World) (hv : NumAt w (.slice ao l.length cap) l) (hn : l.length ≤ 9000000000000000000) :
    Calls Try.prog 99 #[.slice ao l.length cap, .int .i64 s] w fun e w' => e = .returned (.bool (dec (RiseP s l))) ∧ Kept w w' := by
  go_enter Try.func99, Try.ntmps99
  go_wp2
  go_loopw [5, 10] (fun la i wr => ∃ (k : Nat) (y : Int), k ≤ l.length ∧ i = .int .i64 k ∧ la = .int .i64 y ∧ Hid (-1 ≤ y ∧ (k = 0 → y = -1) ∧ (k ≠ 0 → l[k - 1]? = some y) ∧ ∀ j, j < k → SortAt s l j) ∧ Kept w wr) (fun la i _ => l.length - (intOf i).toNat)
  case atStart => exact ⟨0, -1, by omega, rfl, rfl, ⟨by omega, fun _ => rfl, fun h => absurd rfl h, fun j hj => by omega⟩, But.refl _ _ _⟩
  case round =>
    obtain ⟨k, y, hk, rfl, rfl, HB, hkp⟩ := hrel
    by_cases hlt : k < l.length
    · obtain ⟨p, hp⟩ : ∃ p, l[k]? = some p := ⟨_, List.getElem?_eq_getElem hlt⟩
      obtain ⟨g, o, cap1, ee, c0⟩ := num_get (hv.kept hkp) hp
      cases ee
      have HK : Hid _ := hkp
      have HP : Hid (l[k]? = some p) := hp
      clear hkp hp hv
      by_cases h1 : p ≤ y
      · repeat (first | go_values | go_skip | go_guarded | go_step | go_upon)
        go_ret
        refine ⟨ret_boolG (dec_no fun h => ?_).symm, HK.out⟩
        obtain ⟨b1, b2, b3, b4⟩ := HB.out
        obtain ⟨z1, z2, z3⟩ := h k hlt p HP.out
        by_cases hk0 : k = 0
        · have := b2 hk0; omega
        · have := z3 y hk0 (b3 hk0); omega
      · by_cases h2 : s ≤ p
        · repeat (first | go_values | go_skip | go_guarded | go_step | go_upon)
          go_ret
          refine ⟨ret_boolG (dec_no fun h => ?_).symm, HK.out⟩
          obtain ⟨z1, z2, z3⟩ := h k hlt p HP.out
          omega
        · repeat (first | go_values | go_skip | go_guarded | go_step | go_upon)
          refine ⟨⟨k + 1, p, hlt, by go_num, rfl, ?_, HK.out⟩, by simp [intOf]; omega⟩
          obtain ⟨b1, b2, b3, b4⟩ := HB.out
          refine ⟨by omega, by omega, fun _ => HP.out, fun j hj => ?_⟩
          by_cases hjk : j = k
          · subst hjk
            intro p' hp'
            rw [HP.out] at hp'
            cases hp'
            refine ⟨by omega, by omega, fun q hq hq' => ?_⟩
            rw [b3 hq] at hq'
            cases hq'
            omega
          · exact b4 j (by omega)
    · have hke : k = l.length := by omega
      subst hke
      have HKP : Hid _ := hkp
      clear hkp
      go_wp2
      go_ret
      exact ⟨ret_boolG (dec_yes HB.out.2.2.2).symm, HKP.out⟩

set_option maxHeartbeats 4000000 in
theorem ichord (l : List Int) (v : Value) (w : World) (hv : NumAt w v l) (hn : l.length ≤ 1048576) :
    Calls Try.prog 60 #[v] w fun e w' => e = .returned (.bool (dec (ChordP l))) ∧ Kept w w' := by
  obtain ⟨ao, cap, hsl⟩ := row_nil hv
  subst hsl
  by_cases h1 : 1 ≤ l.length
  · have d1 : decide (1 ≤ (l.length : Int)) = true := by simp; omega
    by_cases h2 : l.length ≤ 4
    · have d2 : decide ((l.length : Int) ≤ 4) = true := by simp; omega
      go_enter Try.func60, Try.ntmps60
      repeat (first | (go_at_call 99; refine (irise 100 l _ _ _ hv (by omega)).mono ?_; rintro e w4 ⟨rfl, k4⟩; dsimp only) | go_values | go_skip | go_guarded | go_step | go_upon)
      go_ret
      refine ⟨ret_boolG ?_, k4⟩
      rcases Classical.em (RiseP 100 l) with h | h
      · rw [dec_yes h, dec_yes (show ChordP l from ⟨⟨h1, h2⟩, h⟩)]
      · rw [dec_no h, dec_no (fun h' : ChordP l => h h'.2)]
    · have d2 : decide ((l.length : Int) ≤ 4) = false := by simp; omega
      go_enter Try.func60, Try.ntmps60
      repeat (first | go_values | go_skip | go_guarded | go_step | go_upon)
      go_ret
      exact ⟨ret_boolG (dec_no fun h => h2 h.1.2).symm, But.refl _ _ _⟩
  · have d1 : decide (1 ≤ (l.length : Int)) = false := by simp; omega
    go_enter Try.func60, Try.ntmps60
    repeat (first | go_values | go_skip | go_guarded | go_step | go_upon)
    go_ret
    exact ⟨ret_boolG (dec_no fun h => h1 h.1.1).symm, But.refl _ _ _⟩
set_option maxHeartbeats 4000000 in
theorem schord (l : List Int) (v : Value) (w : World) (hv : NumAt w v l) (hn : l.length ≤ 1048576) :
    Calls Try.prog 56 #[v] w fun e w' => e = .returned (.bool (dec (ChordP l))) ∧ Kept w w' := by
  obtain ⟨ao, cap, hsl⟩ := row_nil hv
  subst hsl
  have NO : Hid (¬ ChordP l → dec (ChordP l) = false) := fun h => dec_no h
  have YES : Hid (ChordP l → dec (ChordP l) = true) := fun h => dec_yes h
  generalize dec (ChordP l) = R at *
  by_cases h1 : l.length < 1
  · rw [NO.out fun h => by have := h.1; omega]
    go_enter Try.func56, Try.ntmps56
    go_wp2
    go_ret
    exact ⟨rfl, But.refl _ _ _⟩
  by_cases h2 : 4 < l.length
  · rw [NO.out fun h => by have := h.1; omega]
    go_enter Try.func56, Try.ntmps56
    go_wp2
    go_ret
    exact ⟨rfl, But.refl _ _ _⟩
  go_enter Try.func56, Try.ntmps56
  go_wp2
  go_loopw [15] (fun i wr => ∃ (k : Nat), k ≤ l.length ∧ i = .int .i64 k ∧ Hid (∀ i, i < k → SortAt 100 l i) ∧ Kept w wr) (fun i _ => l.length - (intOf i).toNat)
  case atStart => exact ⟨0, by omega, rfl, fun j hj => by omega, But.refl _ _ _⟩
  case round =>
    obtain ⟨k, hk5, rfl, HB, hkp⟩ := hrel
    by_cases hlt5 : k < l.length
    · obtain ⟨p, hp⟩ : ∃ p : Int, l[k]? = some p := ⟨_, List.getElem?_eq_getElem hlt5⟩
      have hn5 := hv.kept hkp
      obtain ⟨g, o', cap1, ee, c0⟩ := num_get hn5 hp
      cases ee
      have HPk : Hid (l[k]? = some p) := hp
      have HKz : Hid (Kept w wr) := hkp
      have NR : Hid (¬ SortAt 100 l k → R = false) := fun h => NO.out (fun h' => h (h'.2 k hlt5))
      clear hkp hp
      rcases (Decidable.em (0 ≤ p ∧ p ≤ 99)).symm with h4 | h4
      · have dm : decide (0 ≤ p ∧ p ≤ 99) = false := decide_eq_false h4
        have hR := NR.out (fun h => h4 (by obtain ⟨y1, y2, _⟩ := h p HPk.out; omega))
        subst hR
        clear hn5
        repeat (first | (go_at_call 71; refine (sInG _ _ _ _).mono ?_; rintro e w3 ⟨rfl, hw3⟩; rw [hw3, dm]; clear hw3; dsimp only) | go_values | go_skip | go_guarded | go_step | go_upon)
        go_ret
        exact ⟨rfl, HKz.out⟩
      have dm : decide (0 ≤ p ∧ p ≤ 99) = true := decide_eq_true h4
      by_cases h0 : 0 < k
      · obtain ⟨k', hk'⟩ : ∃ k', k = k' + 1 := ⟨k - 1, by omega⟩
        obtain ⟨q, hq⟩ : ∃ p : Int, l[k']? = some p := ⟨_, List.getElem?_eq_getElem (by omega)⟩
        obtain ⟨g2, o2, cap2, ee, r0⟩ := num_get hn5 hq
        cases ee
        have dj : decide (0 < k) = true := decide_eq_true h0
        have ej : IntKind.i64.wrap ((k : Int) - 1) = (k' : Int) := by rw [IntWalk.i64_in _ (by omega)]; omega
        have ej2 : (k : Int) - 1 = (k' : Int) := by omega
        have y1' : (0 : Int) ≤ (k' : Int) := by omega
        have y2' : (k' : Int) < (l.length : Int) := by omega
        have HQ : Hid (l[k']? = some q ∧ k = k' + 1) := ⟨hq, hk'⟩
        clear hn5 hq hk'
        by_cases h5 : p ≤ q
        · have e5 : decide (p ≤ q) = true := decide_eq_true h5
          have hR := NR.out (fun h => by
            obtain ⟨_, _, y3⟩ := h p HPk.out
            have h6 : q < p := y3 q (by omega) (by rw [HQ.out.2]; simpa using HQ.out.1)
            omega)
          subst hR
          repeat (first | (go_at_call 71; refine (sInG _ _ _ _).mono ?_; rintro e w3 ⟨rfl, hw3⟩; rw [hw3, dm]; clear hw3; dsimp only) | go_values | go_skip | go_guarded | go_step | go_upon)
          go_ret
          exact ⟨rfl, HKz.out⟩
        · have e5 : decide (p ≤ q) = false := decide_eq_false h5
          have HN : Hid (∀ i, i < k + 1 → SortAt 100 l i) := all_more HB.out (fun p' hp' => by
            rw [HPk.out] at hp'
            cases hp'
            refine ⟨by omega, by omega, fun q' _ hq' => ?_⟩
            rw [HQ.out.2] at hq'
            simp only [Nat.add_sub_cancel] at hq'
            rw [HQ.out.1] at hq'
            cases hq'
            omega)
          repeat (first | (go_at_call 71; refine (sInG _ _ _ _).mono ?_; rintro e w3 ⟨rfl, hw3⟩; rw [hw3, dm]; clear hw3; dsimp only) | go_values | go_skip | go_guarded | go_step | go_upon)
          exact ⟨⟨k + 1, hlt5, by go_num, HN.out, HKz.out⟩, by simp [intOf]; omega⟩
      · have dj : decide (0 < k) = false := decide_eq_false h0
        have HN : Hid (∀ i, i < k + 1 → SortAt 100 l i) := all_more HB.out (fun p' hp' => by
          rw [HPk.out] at hp'
          cases hp'
          exact ⟨by omega, by omega, fun q' h => by omega⟩)
        clear h0 hn5
        repeat (first | (go_at_call 71; refine (sInG _ _ _ _).mono ?_; rintro e w3 ⟨rfl, hw3⟩; rw [hw3, dm]; clear hw3; dsimp only) | go_values | go_skip | go_guarded | go_step | go_upon)
        clear dj
        exact ⟨⟨k + 1, hlt5, by go_num, HN.out, HKz.out⟩, by simp [intOf]; omega⟩
    · have hke : k = l.length := by omega
      subst hke
      have HK : Hid (Kept w wr) := hkp
      have hR := YES.out ⟨by omega, HB.out⟩
      subst hR
      clear hkp
      repeat (first | go_values | go_skip | go_guarded | go_step | go_upon)
      go_ret
      exact ⟨rfl, HK.out⟩

end Go.Proofs.Ythkfpbknfjapaaa
