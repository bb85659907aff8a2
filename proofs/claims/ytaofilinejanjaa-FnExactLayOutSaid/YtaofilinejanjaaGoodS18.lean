/-
  Boxes as they must be, in the specification.
-/
import Derived.Test.YtaofilinejanjaaPure18
import Derived.Test.YtaofilinejanjaaQuiet
namespace Go.Proofs.Ytaofilinejanjaa
open Go.ChangeShapes Go.WideShapes Go.ChangeAt Go.RowKit

set_option maxRecDepth 100000
set_option linter.unusedVariables false

set_option maxHeartbeats 8000000 in
theorem sgood (l : List BoxD) (v : Value) (w : World) (hv : BoxAt w v l) (hn : l.length ≤ 1048576) :
    Calls Try.prog 9 #[v] w fun e w' => e = .returned (.bool (dec (BoxesP l))) ∧ Kept w w' := by
  obtain ⟨ao, cap, hsl⟩ := row_nil hv
  subst hsl
  have NO : Hid (¬ BoxesP l → dec (BoxesP l) = false) := fun h => dec_no h
  have YES : Hid (BoxesP l → dec (BoxesP l) = true) := fun h => dec_yes h
  generalize dec (BoxesP l) = R at *
  by_cases h0 : l.length < 1
  · rw [NO.out (fun h => by have := h.1; omega)]
    have d0 : decide ((l.length : Int) < 1) = true := decide_eq_true (by omega)
    go_enter Try.func9, Try.ntmps9
    go_wp2
    go_ret
    exact ⟨rfl, But.refl _ _ _⟩
  have d0 : decide ((l.length : Int) < 1) = false := decide_eq_false (by omega)
  by_cases h1 : 40 < l.length
  · rw [NO.out (fun h => by have := h.2.1; omega)]
    have d1 : decide ((40 : Int) < (l.length : Int)) = true := decide_eq_true (by omega)
    go_enter Try.func9, Try.ntmps9
    go_wp2
    go_ret
    exact ⟨rfl, But.refl _ _ _⟩
  have d1 : decide ((40 : Int) < (l.length : Int)) = false := decide_eq_false (by omega)
  go_enter Try.func9, Try.ntmps9
  go_wp2
  clear d0 d1
  go_loopw [15] (fun i wr => ∃ (k : Nat), k ≤ l.length ∧ i = .int .i64 k ∧ Hid (∀ j, j < k → BoxOk l j) ∧ Kept w wr) (fun i _ => l.length - (intOf i).toNat)
  case atStart => exact ⟨0, by omega, rfl, (fun j hj => by omega : ∀ j, j < 0 → BoxOk l j), But.refl _ _ _⟩
  case round =>
    obtain ⟨j, hk, rfl, HB, hkp⟩ := hrel
    by_cases hlt : j < l.length
    · obtain ⟨d, hd⟩ : ∃ p, l[j]? = some p := ⟨_, List.getElem?_eq_getElem hlt⟩
      obtain ⟨b, o, cap', ee, c0, c1, c2, c3, c4⟩ := box_get (hv.kept hkp) hd
      cases ee
      have NJ : Hid (¬ BoxOk l j → R = false) := fun h => NO.out (fun h' => h (h'.2.2 j hlt))
      have HP : Hid (l[j]? = some d) := hd
      have HK : Hid (Kept w wr) := hkp
      obtain ⟨up, lay, le, gr, pd⟩ := d
      dsimp only at c0 c1 c2 c3 c4
      clear hkp hv hd
      rcases Nat.eq_zero_or_pos j with hj | hj
      · subst hj
        simp only [Nat.zero_mul, Nat.add_zero] at c0 c1 c2 c3 c4
        by_cases hu : up = -1
        · subst hu
          have du : (0 : Int) = 0 := rfl
          rcases (Decidable.em (1 ≤ lay ∧ lay ≤ 2)).symm with h2 | h2
          · have dl : decide (1 ≤ lay ∧ lay ≤ 2) = false := decide_eq_false h2
            have hR := NJ.out (fun h => h2 (h _ HP.out).2.2.1)
            subst hR
            repeat (first | (go_at_call 31; refine (sInG _ _ _ _).mono ?_; rintro e w3 ⟨rfl, hw3⟩; rw [hw3]; clear hw3 w3; (first | rw [du] | rw [dl] | rw [dm] | rw [dg] | rw [dp]); dsimp only) | go_values | go_skip | go_guarded | go_step | go_upon)
            go_ret
            exact ⟨rfl, HK.out.alloc _⟩
          have dl : decide (1 ≤ lay ∧ lay ≤ 2) = true := decide_eq_true h2
          rcases (Decidable.em (0 ≤ le ∧ le ≤ 10000)).symm with h3 | h3
          · have dm : decide (0 ≤ le ∧ le ≤ 10000) = false := decide_eq_false h3
            have hR := NJ.out (fun h => h3 (h _ HP.out).2.2.2.1)
            subst hR
            repeat (first | (go_at_call 31; refine (sInG _ _ _ _).mono ?_; rintro e w3 ⟨rfl, hw3⟩; rw [hw3]; clear hw3 w3; (first | rw [du] | rw [dl] | rw [dm] | rw [dg] | rw [dp]); dsimp only) | go_values | go_skip | go_guarded | go_step | go_upon)
            go_ret
            exact ⟨rfl, HK.out.alloc _⟩
          have dm : decide (0 ≤ le ∧ le ≤ 10000) = true := decide_eq_true h3
          rcases (Decidable.em (0 ≤ gr ∧ gr ≤ 1000)).symm with h4 | h4
          · have dg : decide (0 ≤ gr ∧ gr ≤ 1000) = false := decide_eq_false h4
            have hR := NJ.out (fun h => h4 (h _ HP.out).2.2.2.2.1)
            subst hR
            repeat (first | (go_at_call 31; refine (sInG _ _ _ _).mono ?_; rintro e w3 ⟨rfl, hw3⟩; rw [hw3]; clear hw3 w3; (first | rw [du] | rw [dl] | rw [dm] | rw [dg] | rw [dp]); dsimp only) | go_values | go_skip | go_guarded | go_step | go_upon)
            go_ret
            exact ⟨rfl, HK.out.alloc _⟩
          have dg : decide (0 ≤ gr ∧ gr ≤ 1000) = true := decide_eq_true h4
          rcases (Decidable.em (0 ≤ pd ∧ pd ≤ 100)).symm with h5 | h5
          · have dp : decide (0 ≤ pd ∧ pd ≤ 100) = false := decide_eq_false h5
            have hR := NJ.out (fun h => h5 (h _ HP.out).2.2.2.2.2)
            subst hR
            repeat (first | (go_at_call 31; refine (sInG _ _ _ _).mono ?_; rintro e w3 ⟨rfl, hw3⟩; rw [hw3]; clear hw3 w3; (first | rw [du] | rw [dl] | rw [dm] | rw [dg] | rw [dp]); dsimp only) | go_values | go_skip | go_guarded | go_step | go_upon)
            go_ret
            exact ⟨rfl, HK.out.alloc _⟩
          have dp : decide (0 ≤ pd ∧ pd ≤ 100) = true := decide_eq_true h5
          have I : Hid (∀ i, i < 0 + 1 → BoxOk l i) := all_more HB.out (fun y hy => by
            rw [HP.out] at hy
            cases hy
            exact ⟨fun _ => rfl, fun h => absurd h (by omega), h2, h3, h4, h5⟩)
          repeat (first | (go_at_call 31; refine (sInG _ _ _ _).mono ?_; rintro e w3 ⟨rfl, hw3⟩; rw [hw3]; clear hw3 w3; (first | rw [du] | rw [dl] | rw [dm] | rw [dg] | rw [dp]); dsimp only) | go_values | go_skip | go_guarded | go_step | go_upon)
          exact ⟨⟨0 + 1, hlt, by go_num, I, HK.out.alloc _⟩, by simp [intOf]; omega⟩
        · have du : (up != -1) = true := by simp [hu]
          have hR := NJ.out (fun h => hu ((h _ HP.out).1 rfl))
          subst hR
          repeat (first | (go_at_call 31; refine (sInG _ _ _ _).mono ?_; rintro e w3 ⟨rfl, hw3⟩; rw [hw3]; clear hw3 w3; (first | rw [du] | rw [dl] | rw [dm] | rw [dg] | rw [dp]); dsimp only) | go_values | go_skip | go_guarded | go_step | go_upon)
          go_ret
          exact ⟨rfl, HK.out.alloc _⟩
      · have dj : decide (0 < j) = true := decide_eq_true hj
        have dz : (j == 0) = false := by simp; omega
        have dz' : ((j : Int) == 0) = false := by simp; omega
        rcases (Decidable.em (0 ≤ up ∧ up ≤ (j : Int) - 1)).symm with hu | hu
        · have du : decide (0 ≤ up ∧ up ≤ (j : Int) - 1) = false := decide_eq_false hu
          have hR := NJ.out (fun h => hu ((h _ HP.out).2.1 hj))
          subst hR
          repeat (first | (go_at_call 31; refine (sInG _ _ _ _).mono ?_; rintro e w3 ⟨rfl, hw3⟩; rw [hw3]; clear hw3 w3; (first | rw [du] | rw [dl] | rw [dm] | rw [dg] | rw [dp]); dsimp only) | go_values | go_skip | go_guarded | go_step | go_upon)
          go_ret
          exact ⟨rfl, HK.out.alloc _⟩
        have du : decide (0 ≤ up ∧ up ≤ (j : Int) - 1) = true := decide_eq_true hu
        rcases (Decidable.em (1 ≤ lay ∧ lay ≤ 2)).symm with h2 | h2
        · have dl : decide (1 ≤ lay ∧ lay ≤ 2) = false := decide_eq_false h2
          have hR := NJ.out (fun h => h2 (h _ HP.out).2.2.1)
          subst hR
          repeat (first | (go_at_call 31; refine (sInG _ _ _ _).mono ?_; rintro e w3 ⟨rfl, hw3⟩; rw [hw3]; clear hw3 w3; (first | rw [du] | rw [dl] | rw [dm] | rw [dg] | rw [dp]); dsimp only) | go_values | go_skip | go_guarded | go_step | go_upon)
          go_ret
          exact ⟨rfl, HK.out.alloc _⟩
        have dl : decide (1 ≤ lay ∧ lay ≤ 2) = true := decide_eq_true h2
        rcases (Decidable.em (0 ≤ le ∧ le ≤ 10000)).symm with h3 | h3
        · have dm : decide (0 ≤ le ∧ le ≤ 10000) = false := decide_eq_false h3
          have hR := NJ.out (fun h => h3 (h _ HP.out).2.2.2.1)
          subst hR
          repeat (first | (go_at_call 31; refine (sInG _ _ _ _).mono ?_; rintro e w3 ⟨rfl, hw3⟩; rw [hw3]; clear hw3 w3; (first | rw [du] | rw [dl] | rw [dm] | rw [dg] | rw [dp]); dsimp only) | go_values | go_skip | go_guarded | go_step | go_upon)
          go_ret
          exact ⟨rfl, HK.out.alloc _⟩
        have dm : decide (0 ≤ le ∧ le ≤ 10000) = true := decide_eq_true h3
        rcases (Decidable.em (0 ≤ gr ∧ gr ≤ 1000)).symm with h4 | h4
        · have dg : decide (0 ≤ gr ∧ gr ≤ 1000) = false := decide_eq_false h4
          have hR := NJ.out (fun h => h4 (h _ HP.out).2.2.2.2.1)
          subst hR
          repeat (first | (go_at_call 31; refine (sInG _ _ _ _).mono ?_; rintro e w3 ⟨rfl, hw3⟩; rw [hw3]; clear hw3 w3; (first | rw [du] | rw [dl] | rw [dm] | rw [dg] | rw [dp]); dsimp only) | go_values | go_skip | go_guarded | go_step | go_upon)
          go_ret
          exact ⟨rfl, HK.out.alloc _⟩
        have dg : decide (0 ≤ gr ∧ gr ≤ 1000) = true := decide_eq_true h4
        rcases (Decidable.em (0 ≤ pd ∧ pd ≤ 100)).symm with h5 | h5
        · have dp : decide (0 ≤ pd ∧ pd ≤ 100) = false := decide_eq_false h5
          have hR := NJ.out (fun h => h5 (h _ HP.out).2.2.2.2.2)
          subst hR
          repeat (first | (go_at_call 31; refine (sInG _ _ _ _).mono ?_; rintro e w3 ⟨rfl, hw3⟩; rw [hw3]; clear hw3 w3; (first | rw [du] | rw [dl] | rw [dm] | rw [dg] | rw [dp]); dsimp only) | go_values | go_skip | go_guarded | go_step | go_upon)
          go_ret
          exact ⟨rfl, HK.out.alloc _⟩
        have dp : decide (0 ≤ pd ∧ pd ≤ 100) = true := decide_eq_true h5
        have I : Hid (∀ i, i < j + 1 → BoxOk l i) := all_more HB.out (fun y hy => by
          rw [HP.out] at hy
          cases hy
          exact ⟨fun h => absurd h (by omega), fun _ => hu, h2, h3, h4, h5⟩)
        repeat (first | (go_at_call 31; refine (sInG _ _ _ _).mono ?_; rintro e w3 ⟨rfl, hw3⟩; rw [hw3]; clear hw3 w3; (first | rw [du] | rw [dl] | rw [dm] | rw [dg] | rw [dp]); dsimp only) | go_values | go_skip | go_guarded | go_step | go_upon)
        exact ⟨⟨j + 1, hlt, by go_num, I, HK.out.alloc _⟩, by simp [intOf]; omega⟩
    · have hke : j = l.length := by omega
      subst hke
      have hR := YES.out ⟨by omega, by omega, HB.out⟩
      subst hR
      go_wp2
      go_ret
      exact ⟨rfl, hkp⟩

end Go.Proofs.Ytaofilinejanjaa
