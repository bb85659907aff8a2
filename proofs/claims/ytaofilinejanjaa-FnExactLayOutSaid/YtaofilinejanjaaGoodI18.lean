/-
  Boxes as they must be, in the program.
-/
import Derived.Test.YtaofilinejanjaaPure18
import Derived.Test.YtaofilinejanjaaQuiet
namespace Go.Proofs.Ytaofilinejanjaa
open Go.ChangeShapes Go.WideShapes Go.ChangeAt Go.RowKit

set_option maxRecDepth 100000
set_option linter.unusedVariables false

set_option maxHeartbeats 8000000 in
theorem igbox (up lay le gr pd : Int) (w : World) : Calls Try.prog 33 #[.agg #[.int .i64 up, .int .i64 lay, .int .i64 le, .int .i64 gr, .int .i64 pd]] w fun e w' => e = .returned (.bool (decide ((1 ≤ lay ∧ lay ≤ 2) ∧ (0 ≤ le ∧ le ≤ 10000) ∧ (0 ≤ gr ∧ gr ≤ 1000) ∧ 0 ≤ pd ∧ pd ≤ 100))) ∧ Kept w w' := by
  generalize hR : decide ((1 ≤ lay ∧ lay ≤ 2) ∧ (0 ≤ le ∧ le ≤ 10000) ∧ (0 ≤ gr ∧ gr ≤ 1000) ∧ 0 ≤ pd ∧ pd ≤ 100) = R
  have HR : Hid (decide ((1 ≤ lay ∧ lay ≤ 2) ∧ (0 ≤ le ∧ le ≤ 10000) ∧ (0 ≤ gr ∧ gr ≤ 1000) ∧ 0 ≤ pd ∧ pd ≤ 100) = R) := hR
  clear hR
  by_cases hl : lay = 1 ∨ lay = 2
  · rcases (Decidable.em (0 ≤ le ∧ le ≤ 10000)).symm with h2 | h2
    · have dm : decide (0 ≤ le ∧ le ≤ 10000) = false := decide_eq_false h2
      rcases hl with hl | hl
      · subst hl
        go_enter Try.func33, Try.ntmps33
        repeat (first | (go_at_call 36; refine (iroom _ _).mono ?_; rintro e w3 ⟨rfl, hw3⟩; rw [hw3, dm]; clear hw3 w3; dsimp only) | (go_at_call 37; refine (igrow _ _).mono ?_; rintro e w3 ⟨rfl, hw3⟩; rw [hw3, dg]; clear hw3 w3; dsimp only) | go_values | go_skip | go_guarded | go_step | go_upon)
        go_ret
        exact ⟨ret_boolG (by rw [← HR.out]; exact (decide_eq_false (by omega)).symm), (But.refl _ _ _).alloc _⟩
      · subst hl
        go_enter Try.func33, Try.ntmps33
        repeat (first | (go_at_call 36; refine (iroom _ _).mono ?_; rintro e w3 ⟨rfl, hw3⟩; rw [hw3, dm]; clear hw3 w3; dsimp only) | (go_at_call 37; refine (igrow _ _).mono ?_; rintro e w3 ⟨rfl, hw3⟩; rw [hw3, dg]; clear hw3 w3; dsimp only) | go_values | go_skip | go_guarded | go_step | go_upon)
        go_ret
        exact ⟨ret_boolG (by rw [← HR.out]; exact (decide_eq_false (by omega)).symm), (But.refl _ _ _).alloc _⟩
    have dm : decide (0 ≤ le ∧ le ≤ 10000) = true := decide_eq_true h2
    rcases (Decidable.em (0 ≤ gr ∧ gr ≤ 1000)).symm with h3 | h3
    · have dg : decide (0 ≤ gr ∧ gr ≤ 1000) = false := decide_eq_false h3
      rcases hl with hl | hl
      · subst hl
        go_enter Try.func33, Try.ntmps33
        repeat (first | (go_at_call 36; refine (iroom _ _).mono ?_; rintro e w3 ⟨rfl, hw3⟩; rw [hw3, dm]; clear hw3 w3; dsimp only) | (go_at_call 37; refine (igrow _ _).mono ?_; rintro e w3 ⟨rfl, hw3⟩; rw [hw3, dg]; clear hw3 w3; dsimp only) | go_values | go_skip | go_guarded | go_step | go_upon)
        go_ret
        exact ⟨ret_boolG (by rw [← HR.out]; exact (decide_eq_false (by omega)).symm), (But.refl _ _ _).alloc _⟩
      · subst hl
        go_enter Try.func33, Try.ntmps33
        repeat (first | (go_at_call 36; refine (iroom _ _).mono ?_; rintro e w3 ⟨rfl, hw3⟩; rw [hw3, dm]; clear hw3 w3; dsimp only) | (go_at_call 37; refine (igrow _ _).mono ?_; rintro e w3 ⟨rfl, hw3⟩; rw [hw3, dg]; clear hw3 w3; dsimp only) | go_values | go_skip | go_guarded | go_step | go_upon)
        go_ret
        exact ⟨ret_boolG (by rw [← HR.out]; exact (decide_eq_false (by omega)).symm), (But.refl _ _ _).alloc _⟩
    have dg : decide (0 ≤ gr ∧ gr ≤ 1000) = true := decide_eq_true h3
    by_cases h4 : 0 ≤ pd
    · have d4 : decide (0 ≤ pd) = true := decide_eq_true h4
      by_cases h5 : pd ≤ 100
      · have d5 : decide (pd ≤ 100) = true := decide_eq_true h5
        rcases hl with hl | hl
        · subst hl
          go_enter Try.func33, Try.ntmps33
          repeat (first | (go_at_call 36; refine (iroom _ _).mono ?_; rintro e w3 ⟨rfl, hw3⟩; rw [hw3, dm]; clear hw3 w3; dsimp only) | (go_at_call 37; refine (igrow _ _).mono ?_; rintro e w3 ⟨rfl, hw3⟩; rw [hw3, dg]; clear hw3 w3; dsimp only) | go_values | go_skip | go_guarded | go_step | go_upon)
          go_ret
          exact ⟨ret_boolG (by rw [← HR.out]; exact (decide_eq_true (by omega)).symm), (But.refl _ _ _).alloc _⟩
        · subst hl
          go_enter Try.func33, Try.ntmps33
          repeat (first | (go_at_call 36; refine (iroom _ _).mono ?_; rintro e w3 ⟨rfl, hw3⟩; rw [hw3, dm]; clear hw3 w3; dsimp only) | (go_at_call 37; refine (igrow _ _).mono ?_; rintro e w3 ⟨rfl, hw3⟩; rw [hw3, dg]; clear hw3 w3; dsimp only) | go_values | go_skip | go_guarded | go_step | go_upon)
          go_ret
          exact ⟨ret_boolG (by rw [← HR.out]; exact (decide_eq_true (by omega)).symm), (But.refl _ _ _).alloc _⟩
      · have d5 : decide (pd ≤ 100) = false := decide_eq_false h5
        rcases hl with hl | hl
        · subst hl
          go_enter Try.func33, Try.ntmps33
          repeat (first | (go_at_call 36; refine (iroom _ _).mono ?_; rintro e w3 ⟨rfl, hw3⟩; rw [hw3, dm]; clear hw3 w3; dsimp only) | (go_at_call 37; refine (igrow _ _).mono ?_; rintro e w3 ⟨rfl, hw3⟩; rw [hw3, dg]; clear hw3 w3; dsimp only) | go_values | go_skip | go_guarded | go_step | go_upon)
          go_ret
          exact ⟨ret_boolG (by rw [← HR.out]; exact (decide_eq_false (by omega)).symm), (But.refl _ _ _).alloc _⟩
        · subst hl
          go_enter Try.func33, Try.ntmps33
          repeat (first | (go_at_call 36; refine (iroom _ _).mono ?_; rintro e w3 ⟨rfl, hw3⟩; rw [hw3, dm]; clear hw3 w3; dsimp only) | (go_at_call 37; refine (igrow _ _).mono ?_; rintro e w3 ⟨rfl, hw3⟩; rw [hw3, dg]; clear hw3 w3; dsimp only) | go_values | go_skip | go_guarded | go_step | go_upon)
          go_ret
          exact ⟨ret_boolG (by rw [← HR.out]; exact (decide_eq_false (by omega)).symm), (But.refl _ _ _).alloc _⟩
    · have d4 : decide (0 ≤ pd) = false := decide_eq_false h4
      rcases hl with hl | hl
      · subst hl
        go_enter Try.func33, Try.ntmps33
        repeat (first | (go_at_call 36; refine (iroom _ _).mono ?_; rintro e w3 ⟨rfl, hw3⟩; rw [hw3, dm]; clear hw3 w3; dsimp only) | (go_at_call 37; refine (igrow _ _).mono ?_; rintro e w3 ⟨rfl, hw3⟩; rw [hw3, dg]; clear hw3 w3; dsimp only) | go_values | go_skip | go_guarded | go_step | go_upon)
        go_ret
        exact ⟨ret_boolG (by rw [← HR.out]; exact (decide_eq_false (by omega)).symm), (But.refl _ _ _).alloc _⟩
      · subst hl
        go_enter Try.func33, Try.ntmps33
        repeat (first | (go_at_call 36; refine (iroom _ _).mono ?_; rintro e w3 ⟨rfl, hw3⟩; rw [hw3, dm]; clear hw3 w3; dsimp only) | (go_at_call 37; refine (igrow _ _).mono ?_; rintro e w3 ⟨rfl, hw3⟩; rw [hw3, dg]; clear hw3 w3; dsimp only) | go_values | go_skip | go_guarded | go_step | go_upon)
        go_ret
        exact ⟨ret_boolG (by rw [← HR.out]; exact (decide_eq_false (by omega)).symm), (But.refl _ _ _).alloc _⟩
  · have e1 : (lay == 1) = false := by simp; omega
    have e2 : (lay == 2) = false := by simp; omega
    go_enter Try.func33, Try.ntmps33
    repeat (first | (go_at_call 36; refine (iroom _ _).mono ?_; rintro e w3 ⟨rfl, hw3⟩; rw [hw3, dm]; clear hw3 w3; dsimp only) | (go_at_call 37; refine (igrow _ _).mono ?_; rintro e w3 ⟨rfl, hw3⟩; rw [hw3, dg]; clear hw3 w3; dsimp only) | go_values | go_skip | go_guarded | go_step | go_upon)
    go_ret
    exact ⟨ret_boolG (by rw [← HR.out]; exact (decide_eq_false (by omega)).symm), (But.refl _ _ _).alloc _⟩

set_option maxHeartbeats 8000000 in
theorem igood (l : List BoxD) (v : Value) (w : World) (hv : BoxAt w v l) (hn : l.length ≤ 1048576) :
    Calls Try.prog 11 #[v] w fun e w' => e = .returned (.bool (dec (BoxesP l))) ∧ Kept w w' := by
  obtain ⟨ao, cap, hsl⟩ := row_nil hv
  subst hsl
  have NO : Hid (¬ BoxesP l → dec (BoxesP l) = false) := fun h => dec_no h
  have YES : Hid (BoxesP l → dec (BoxesP l) = true) := fun h => dec_yes h
  generalize dec (BoxesP l) = R at *
  by_cases h0 : l.length < 1
  · rw [NO.out (fun h => by have := h.1; omega)]
    have d0 : decide ((l.length : Int) < 1) = true := decide_eq_true (by omega)
    go_enter Try.func11, Try.ntmps11
    go_wp2
    go_ret
    exact ⟨rfl, But.refl _ _ _⟩
  have d0 : decide ((l.length : Int) < 1) = false := decide_eq_false (by omega)
  by_cases h1 : 40 < l.length
  · rw [NO.out (fun h => by have := h.2.1; omega)]
    have d1 : decide ((40 : Int) < (l.length : Int)) = true := decide_eq_true (by omega)
    go_enter Try.func11, Try.ntmps11
    go_wp2
    go_ret
    exact ⟨rfl, But.refl _ _ _⟩
  have d1 : decide ((40 : Int) < (l.length : Int)) = false := decide_eq_false (by omega)
  obtain ⟨d, hd⟩ : ∃ p, l[0]? = some p := ⟨_, List.getElem?_eq_getElem (by omega)⟩
  obtain ⟨b0, o0, cap0, ee, z0, z1, z2, z3, z4⟩ := box_get hv hd
  cases ee
  have HP0 : Hid (l[0]? = some d) := hd
  obtain ⟨up0, lay0, le0, gr0, pd0⟩ := d
  simp only [Nat.zero_mul, Nat.add_zero] at z0
  clear z1 z2 z3 z4 hd
  have y1 : (0 : Int) < (l.length : Int) := by omega
  by_cases hu0 : up0 = -1
  · have du0 : (up0 != -1) = false := by simp [hu0]
    have HU0 : Hid (up0 = -1) := hu0
    clear hu0
    go_enter Try.func11, Try.ntmps11
    go_wp2
    clear d0 d1
    go_loopw [22] (fun i wr => ∃ (k : Nat), k ≤ l.length ∧ i = .int .i64 k ∧ Hid (∀ j, j < k → BoxOk l j) ∧ Kept w wr) (fun i _ => l.length - (intOf i).toNat)
    case atStart => exact ⟨0, by omega, rfl, (fun j hj => by omega : ∀ j, j < 0 → BoxOk l j), But.refl _ _ _⟩
    case round =>
      obtain ⟨j, hk, rfl, HB, hkp⟩ := hrel
      by_cases hlt : j < l.length
      · obtain ⟨d, hd⟩ : ∃ p, l[j]? = some p := ⟨_, List.getElem?_eq_getElem hlt⟩
        obtain ⟨b, o, cap', ee, c0, c1, c2, c3, c4⟩ := box_get (hv.kept hkp) hd
        cases ee
        have NJ : Hid (¬ BoxOk l j → R = false) := fun h => NO.out (fun h' => h (h'.2.2 j hlt))
        have HP : Hid (l[j]? = some d) := hd
        have HK : Hid (Kept w wr) := hkp
        obtain ⟨up, lay, le, gr, pd⟩ := d
        dsimp only at c0 c1 c2 c3 c4
        have cv : (wr.alloc (.cells #[.int .i64 up, .int .i64 lay, .int .i64 le, .int .i64 gr, .int .i64 pd] 52)).cell? ⟨wr.heap.size, 0, none⟩ = some (.int .i64 up) := by simp
        have hwz : wr.heap.size < wr.heap.size + 1 := by omega
        clear hkp hv hd z0
        rcases (Decidable.em ((1 ≤ lay ∧ lay ≤ 2) ∧ (0 ≤ le ∧ le ≤ 10000) ∧ (0 ≤ gr ∧ gr ≤ 1000) ∧ 0 ≤ pd ∧ pd ≤ 100)).symm with hb | hb
        · have db : decide ((1 ≤ lay ∧ lay ≤ 2) ∧ (0 ≤ le ∧ le ≤ 10000) ∧ (0 ≤ gr ∧ gr ≤ 1000) ∧ 0 ≤ pd ∧ pd ≤ 100) = false := decide_eq_false hb
          have hR := NJ.out (fun h => hb ((h _ HP.out).2.2))
          subst hR
          repeat (first | (go_at_call 33; refine (igbox _ _ _ _ _ _).mono ?_; rintro e w3 ⟨rfl, k3⟩; rw [db]; dsimp only; have e3 := Kept.cell k3 cv; clear cv) | go_values | go_skip | go_guarded | go_step | go_upon)
          go_ret
          exact ⟨rfl, (HK.out.alloc _).trans k3⟩
        have db : decide ((1 ≤ lay ∧ lay ≤ 2) ∧ (0 ≤ le ∧ le ≤ 10000) ∧ (0 ≤ gr ∧ gr ≤ 1000) ∧ 0 ≤ pd ∧ pd ≤ 100) = true := decide_eq_true hb
        rcases Nat.eq_zero_or_pos j with hj | hj
        · subst hj
          simp only [Nat.zero_mul, Nat.add_zero] at c0 c1 c2 c3 c4
          have I : Hid (∀ i, i < 0 + 1 → BoxOk l i) := all_more HB.out (fun y hy => by
            have h9 := hy
            rw [HP0.out] at h9
            have h8 := congrArg Prod.fst (Option.some.inj h9)
            rw [HP.out] at hy
            cases hy
            exact ⟨fun _ => by rw [← h8]; exact HU0.out, fun h => absurd h (by omega), hb⟩)
          clear hb
          repeat (first | (go_at_call 33; refine (igbox _ _ _ _ _ _).mono ?_; rintro e w3 ⟨rfl, k3⟩; rw [db]; dsimp only; have e3 := Kept.cell k3 cv; clear cv) | go_values | go_skip | go_guarded | go_step | go_upon)
          exact ⟨⟨0 + 1, hlt, by go_num, I, (HK.out.alloc _).trans k3⟩, by simp [intOf]; omega⟩
        · have dj : decide (0 < j) = true := decide_eq_true hj
          by_cases hua : up < 0
          · have du : decide (up < 0) = true := decide_eq_true hua
            have hR := NJ.out (fun h => by have := ((h _ HP.out).2.1 hj).1; dsimp only at this; omega)
            subst hR
            clear hb
            repeat (first | (go_at_call 33; refine (igbox _ _ _ _ _ _).mono ?_; rintro e w3 ⟨rfl, k3⟩; rw [db]; dsimp only; have e3 := Kept.cell k3 cv; clear cv) | go_values | go_skip | go_guarded | go_step | go_upon)
            go_ret
            exact ⟨rfl, (HK.out.alloc _).trans k3⟩
          have du : decide (up < 0) = false := decide_eq_false hua
          by_cases hub : (j : Int) ≤ up
          · have dv : decide ((j : Int) ≤ up) = true := decide_eq_true hub
            have hR := NJ.out (fun h => by have := ((h _ HP.out).2.1 hj).2; dsimp only at this; omega)
            subst hR
            clear hb
            repeat (first | (go_at_call 33; refine (igbox _ _ _ _ _ _).mono ?_; rintro e w3 ⟨rfl, k3⟩; rw [db]; dsimp only; have e3 := Kept.cell k3 cv; clear cv) | go_values | go_skip | go_guarded | go_step | go_upon)
            go_ret
            exact ⟨rfl, (HK.out.alloc _).trans k3⟩
          have dv : decide ((j : Int) ≤ up) = false := decide_eq_false hub
          have I : Hid (∀ i, i < j + 1 → BoxOk l i) := all_more HB.out (fun y hy => by
            rw [HP.out] at hy
            cases hy
            exact ⟨fun h => absurd h (by omega), fun _ => ⟨by dsimp only; omega, by dsimp only; omega⟩, hb⟩)
          clear hb
          repeat (first | (go_at_call 33; refine (igbox _ _ _ _ _ _).mono ?_; rintro e w3 ⟨rfl, k3⟩; rw [db]; dsimp only; have e3 := Kept.cell k3 cv; clear cv) | go_values | go_skip | go_guarded | go_step | go_upon)
          exact ⟨⟨j + 1, hlt, by go_num, I, (HK.out.alloc _).trans k3⟩, by simp [intOf]; omega⟩
      · have hke : j = l.length := by omega
        subst hke
        have hR := YES.out ⟨by omega, by omega, HB.out⟩
        subst hR
        go_wp2
        go_ret
        exact ⟨rfl, hkp⟩
  · have du0 : (up0 != -1) = true := by simp [hu0]
    rw [NO.out (fun h => hu0 ((h.2.2 0 (by omega) _ HP0.out).1 rfl))]
    go_enter Try.func11, Try.ntmps11
    go_wp2
    go_ret
    exact ⟨rfl, But.refl _ _ _⟩

end Go.Proofs.Ytaofilinejanjaa
