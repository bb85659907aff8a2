/-
  Bits that are good.
-/
import Derived.Test.YtaadlhcpgjibeaaDoorBits
import Derived.Laws.BitsAllLaws
import Derived.BigQuiet
namespace Go.Proofs.YtaadlhcpgjibeaaDoor
open Go.ChangeShapes Go.WideShapes Go.ChangeAt Go.RowKit

set_option maxRecDepth 100000
set_option linter.unusedVariables false
set_option linter.unusedSimpArgs false

/-- What lies behind the last bit is nought. -/
abbrev LowP (c : BitsD) : Prop := ((c.2.getLast?.getD 0).toNat : Int) * 2 ^ (c.1 % 8).toNat % 256 = 0
abbrev BitsP (c : BitsD) : Prop := (0 ≤ c.1 ∧ c.1 ≤ 4000) ∧ (c.2.length : Int) = (c.1 + 7) / 8 ∧ (c.1 % 8 = 0 ∨ LowP c)
theorem sin (n a b : Int) (w : World) : Calls Tryd.prog 49 #[.int .i64 n, .int .i64 a, .int .i64 b] w fun e w' => e = .returned (.bool (decide (a ≤ n ∧ n ≤ b))) ∧ w' = w := by
  by_cases h1 : a ≤ n
  · have d1 : decide (n ≥ a) = true := by simp; omega
    by_cases h2 : n ≤ b
    · have d2 : decide (n ≤ b) = true := by simp; omega
      rw [decide_eq_true (And.intro h1 h2)]
      go_enter Tryd.func49, Tryd.ntmps49
      go_wp2
      go_ret
      simp
    · have d2 : decide (n ≤ b) = false := by simp; omega
      rw [decide_eq_false (fun h => h2 h.2)]
      go_enter Tryd.func49, Tryd.ntmps49
      go_wp2
      go_ret
      simp
  · have d1 : decide (n ≥ a) = false := by simp; omega
    rw [decide_eq_false (fun h => h1 h.1)]
    go_enter Tryd.func49, Tryd.ntmps49
    go_wp2
    go_ret
    simp
theorem last_at {l : List UInt8} {n : Nat} (h : l.length = n + 1) : ∃ x, l[n]? = some x ∧ l.getLast? = some x := by
  have hn : n < l.length := by omega
  refine ⟨l[n], List.getElem?_eq_getElem hn, ?_⟩
  rw [List.getLast?_eq_getElem?, h]
  simp

set_option maxHeartbeats 4000000 in
theorem sgood (c : BitsD) (v : Value) (w : World) (hv : BitsAt w v c) (hn : c.2.length ≤ 9000000000000000000) (hz : -9223372036854775808 ≤ c.1 ∧ c.1 ≤ 9223372036854775807) :
    Calls Tryd.prog 48 #[v] w fun e w' => e = .returned (.bool (decide (BitsP c))) ∧ Kept w w' := by
  obtain ⟨ao, cap, hfm⟩ := hv.form
  subst hfm
  have hr := hv.row
  have NO : Hid (¬ BitsP c → decide (BitsP c) = false) := fun h => decide_eq_false h
  have YES : Hid (BitsP c → decide (BitsP c) = true) := fun h => decide_eq_true h
  generalize decide (BitsP c) = R at *
  obtain ⟨z1, z2⟩ := hz
  by_cases h1 : (0 ≤ c.1 ∧ c.1 ≤ 4000)
  · have d1 : decide (0 ≤ c.1 ∧ c.1 ≤ 4000) = true := decide_eq_true h1
    have d0 := d1
    by_cases h2 : (c.2.length : Int) = (c.1 + 7) / 8
    · have d3 : (((c.2.length : Nat) : Int) != (c.1 + 7) / 8) = false := by simp; omega
      by_cases h3 : c.1 % 8 = 0
      · have d4 : (c.1 % 8 == 0) = true := by simpa using h3
        rw [YES.out ⟨h1, h2, Or.inl h3⟩]
        have HH2 : Hid _ := h2
        have HH3 : Hid _ := h3
        clear h2 h3
        go_enter Tryd.func48, Tryd.ntmps48
        repeat (first | (go_at_call 49; refine (sin _ _ _ _).mono ?_; rintro e w3 ⟨rfl, hw3⟩; rw [hw3]; clear hw3 w3; rw [d1]; dsimp only) | go_values | go_skip | go_guarded | go_step | go_upon)
        go_quiet (fail)
        repeat (first | go_values | go_skip | go_guarded | go_step | go_upon)
        go_ret
        exact ⟨rfl, ((But.refl _ _ _).alloc _).drewN _⟩
      · have d4 : (c.1 % 8 == 0) = false := by simpa using h3
        obtain ⟨x, hx, hl⟩ := last_at (l := c.2) (n := c.2.length - 1) (by omega)
        have hR : R = ((x.toNat : Int) * 2 ^ (c.1 % 8).toNat % 256 == 0) := by
          cases q : ((x.toNat : Int) * 2 ^ (c.1 % 8).toNat % 256 == 0) with
          | true => exact YES.out ⟨h1, h2, Or.inr (by unfold LowP; rw [hl]; exact of_decide_eq_true q)⟩
          | false => exact NO.out (fun h => h.2.2.elim h3 (fun h => by unfold LowP at h; rw [hl] at h; exact of_decide_eq_false q h))
        rw [hR]
        have HH2 : Hid _ := h2
        have HH3 : Hid _ := h3
        have hi1 : (0 : Int) ≤ (c.2.length : Int) - 1 := by omega
        obtain ⟨g, o, cap1, ee, c0⟩ := byt_get (hr.kept ((But.refl _ _ _).alloc (.cells #[.int .i64 c.1, .slice ao c.2.length cap] 24))) hx
        cases ee
        clear h2 h3 hR hl
        go_enter Tryd.func48, Tryd.ntmps48
        repeat (first | (go_at_call 49; refine (sin _ _ _ _).mono ?_; rintro e w3 ⟨rfl, hw3⟩; rw [hw3]; clear hw3 w3; rw [d1]; dsimp only) | go_values | go_skip | go_guarded | go_step | go_upon)
        go_quiet (fail)
        repeat (first | go_values | go_skip | go_guarded | go_step | go_upon)
        go_ret
        exact ⟨rfl, ((But.refl _ _ _).alloc _).drewN _⟩
    · have d3 : (((c.2.length : Nat) : Int) != (c.1 + 7) / 8) = true := bne_iff_ne.2 h2
      have HH2 : Hid _ := h2
      clear h2
      rw [NO.out (fun h => HH2.out h.2.1)]
      go_enter Tryd.func48, Tryd.ntmps48
      repeat (first | (go_at_call 49; refine (sin _ _ _ _).mono ?_; rintro e w3 ⟨rfl, hw3⟩; rw [hw3]; clear hw3 w3; rw [d1]; dsimp only) | go_values | go_skip | go_guarded | go_step | go_upon)
      go_ret
      exact ⟨rfl, (But.refl _ _ _).alloc _⟩
  · have HH1 : Hid _ := h1
    clear h1
    rcases Decidable.em (c.1 < 0) with h5 | h5
    · have d1 : decide (0 ≤ c.1 ∧ c.1 ≤ 4000) = false := decide_eq_false HH1.out
      rw [NO.out (fun h => HH1.out h.1)]
      go_enter Tryd.func48, Tryd.ntmps48
      repeat (first | (go_at_call 49; refine (sin _ _ _ _).mono ?_; rintro e w3 ⟨rfl, hw3⟩; rw [hw3]; clear hw3 w3; rw [d1]; dsimp only) | go_values | go_skip | go_guarded | go_step | go_upon)
      go_ret
      exact ⟨rfl, (But.refl _ _ _).alloc _⟩
    · have d1 : decide (0 ≤ c.1 ∧ c.1 ≤ 4000) = false := decide_eq_false HH1.out
      have d2 : decide (c.1 > 4000) = true := decide_eq_true (Int.lt_of_not_ge fun h => (HH1.out ⟨by omega, h⟩).elim)
      rw [NO.out (fun h => HH1.out h.1)]
      go_enter Tryd.func48, Tryd.ntmps48
      repeat (first | (go_at_call 49; refine (sin _ _ _ _).mono ?_; rintro e w3 ⟨rfl, hw3⟩; rw [hw3]; clear hw3 w3; rw [d1]; dsimp only) | go_values | go_skip | go_guarded | go_step | go_upon)
      go_ret
      exact ⟨rfl, (But.refl _ _ _).alloc _⟩

set_option maxHeartbeats 4000000 in
theorem igood (c : BitsD) (v : Value) (w : World) (hv : BitsAt w v c) (hn : c.2.length ≤ 9000000000000000000) (hz : -9223372036854775808 ≤ c.1 ∧ c.1 ≤ 9223372036854775807) :
    Calls Tryd.prog 43 #[v] w fun e w' => e = .returned (.bool (decide (BitsP c))) ∧ Kept w w' := by
  obtain ⟨ao, cap, hfm⟩ := hv.form
  subst hfm
  have hr := hv.row
  have NO : Hid (¬ BitsP c → decide (BitsP c) = false) := fun h => decide_eq_false h
  have YES : Hid (BitsP c → decide (BitsP c) = true) := fun h => decide_eq_true h
  generalize decide (BitsP c) = R at *
  obtain ⟨z1, z2⟩ := hz
  by_cases h1 : (0 ≤ c.1 ∧ c.1 ≤ 4000)
  · have d1 : decide (c.1 < 0) = false := by simp; omega
    have d2 : decide (c.1 > 4000) = false := by simp; omega
    by_cases h2 : (c.2.length : Int) = (c.1 + 7) / 8
    · have d3 : (((c.2.length : Nat) : Int) != (c.1 + 8 - 1) / 8) = false := by simp; omega
      by_cases h3 : c.1 % 8 = 0
      · have d4 : (c.1 % 8 == 0) = true := by simpa using h3
        rw [YES.out ⟨h1, h2, Or.inl h3⟩]
        have HH2 : Hid _ := h2
        have HH3 : Hid _ := h3
        clear h2 h3
        go_enter Tryd.func43, Tryd.ntmps43
        repeat (first | fail | go_values | go_skip | go_guarded | go_step | go_upon)
        go_ret
        exact ⟨rfl, ((But.refl _ _ _).alloc _)⟩
      · have d4 : (c.1 % 8 == 0) = false := by simpa using h3
        obtain ⟨x, hx, hl⟩ := last_at (l := c.2) (n := c.2.length - 1) (by omega)
        have hR : R = ((x.toNat : Int) * 2 ^ (c.1 % 8).toNat % 256 == 0) := by
          cases q : ((x.toNat : Int) * 2 ^ (c.1 % 8).toNat % 256 == 0) with
          | true => exact YES.out ⟨h1, h2, Or.inr (by unfold LowP; rw [hl]; exact of_decide_eq_true q)⟩
          | false => exact NO.out (fun h => h.2.2.elim h3 (fun h => by unfold LowP at h; rw [hl] at h; exact of_decide_eq_false q h))
        rw [hR]
        have HH2 : Hid _ := h2
        have HH3 : Hid _ := h3
        have hi1 : (0 : Int) ≤ (c.2.length : Int) - 1 := by omega
        obtain ⟨g, o, cap1, ee, c0⟩ := byt_get (hr.kept ((But.refl _ _ _).alloc (.cells #[.int .i64 c.1, .slice ao c.2.length cap] 24))) hx
        cases ee
        clear h2 h3 hR hl
        go_enter Tryd.func43, Tryd.ntmps43
        repeat (first | fail | go_values | go_skip | go_guarded | go_step | go_upon)
        go_ret
        exact ⟨rfl, ((But.refl _ _ _).alloc _)⟩
    · have d3 : (((c.2.length : Nat) : Int) != (c.1 + 8 - 1) / 8) = true := by rw [show c.1 + 8 - 1 = c.1 + 7 by omega]; exact bne_iff_ne.2 h2
      have HH2 : Hid _ := h2
      clear h2
      rw [NO.out (fun h => HH2.out h.2.1)]
      go_enter Tryd.func43, Tryd.ntmps43
      repeat (first | fail | go_values | go_skip | go_guarded | go_step | go_upon)
      go_ret
      exact ⟨rfl, (But.refl _ _ _).alloc _⟩
  · have HH1 : Hid _ := h1
    clear h1
    rcases Decidable.em (c.1 < 0) with h5 | h5
    · have d1 : decide (c.1 < 0) = true := by simp; omega
      rw [NO.out (fun h => HH1.out h.1)]
      go_enter Tryd.func43, Tryd.ntmps43
      repeat (first | fail | go_values | go_skip | go_guarded | go_step | go_upon)
      go_ret
      exact ⟨rfl, (But.refl _ _ _).alloc _⟩
    · have d1 : decide (c.1 < 0) = false := by simp; omega
      have d2 : decide (c.1 > 4000) = true := decide_eq_true (Int.lt_of_not_ge fun h => (HH1.out ⟨by omega, h⟩).elim)
      rw [NO.out (fun h => HH1.out h.1)]
      go_enter Tryd.func43, Tryd.ntmps43
      repeat (first | fail | go_values | go_skip | go_guarded | go_step | go_upon)
      go_ret
      exact ⟨rfl, (But.refl _ _ _).alloc _⟩

end Go.Proofs.YtaadlhcpgjibeaaDoor
