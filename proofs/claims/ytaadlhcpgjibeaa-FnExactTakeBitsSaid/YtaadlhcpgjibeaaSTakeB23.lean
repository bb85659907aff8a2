/-
  TakeBits of the specification.
-/
import Derived.Test.YtaadlhcpgjibeaaSTake23
namespace Go.Proofs.Ytaadlhcpgjibeaa
open Go.ChangeShapes Go.WideShapes Go.ChangeAt Go.RowKit

set_option maxRecDepth 100000
set_option linter.unusedVariables false
set_option linter.unusedSimpArgs false

abbrev TakeP (c : BitsD) (a m : Int) : Prop := BitsP c ∧ (0 ≤ m ∧ m ≤ 32) ∧ 0 ≤ a ∧ a ≤ c.1 - m
/-- What TakeBits answers. -/
def takeA (c : BitsD) (a m : Int) : Int × Bool := if TakeP c a m then ((takeN c.2 a.toNat m.toNat : Nat), true) else (0, false)
theorem takeA_no {c : BitsD} {a m : Int} (h : ¬ TakeP c a m) : takeA c a m = (0, false) := if_neg h
theorem takeA_yes {c : BitsD} {a m : Int} (h : TakeP c a m) : takeA c a m = (((takeN c.2 a.toNat m.toNat : Nat) : Int), true) := if_pos h

set_option maxHeartbeats 4000000 in
theorem stakeB (c : BitsD) (a m : Int) (v : Value) (w : World) (hv : BitsAt w v c) (hn : c.2.length ≤ 9000000000000000000) (hz : -9223372036854775808 ≤ c.1 ∧ c.1 ≤ 9223372036854775807) :
    Calls Try.prog 15 #[v, .int .i64 a, .int .i64 m] w fun e w' => e = .returned (.tuple #[.int .i64 (takeA c a m).1, .bool (takeA c a m).2]) ∧ Kept w w' := by
  obtain ⟨ao, cap, hfm⟩ := hv.form
  subst hfm
  have hr := hv.row
  rcases (Decidable.em (BitsP c)).symm with h1 | h1
  · have d1 : decide (BitsP c) = false := decide_eq_false h1
    have H1 : Hid _ := h1
    clear h1
    rw [takeA_no (fun h => H1.out h.1)]
    go_enter Try.func15, Try.ntmps15
    repeat (first | (go_at_call 7; refine (sgood c _ _ (hv.kept ((But.refl _ _ _).alloc _)) hn hz).mono ?_; rintro e w3 ⟨rfl, k3⟩; have L3 := (Loc.new w [.int .i64 c.1, .slice ao c.2.length cap] 27).kept k3; have b0 := L3.cell 0 rfl; have b1 := L3.cell 1 rfl; have K3 : Hid (Kept w w3) := ((But.refl _ _ _).alloc _).trans k3; clear k3 L3; rw [d1]; dsimp only) | (go_at_call 18; refine (sin _ _ _ _).mono ?_; rintro e w4 ⟨rfl, hw4⟩; rw [hw4]; clear hw4 w4; rw [d2]; dsimp only) | go_values | go_skip | go_guarded | go_step | go_upon)
    go_ret2
    exact ⟨rfl, K3.out⟩
  have d1 : decide (BitsP c) = true := decide_eq_true h1
  have z1 := h1.1
  have z2 := h1.2.1
  have H1 : Hid _ := h1
  clear h1
  rcases (Decidable.em (0 ≤ m ∧ m ≤ 32)).symm with h2 | h2
  · have d2 : decide (0 ≤ m ∧ m ≤ 32) = false := decide_eq_false h2
    have H2 : Hid _ := h2
    clear h2
    rw [takeA_no (fun h => H2.out h.2.1)]
    go_enter Try.func15, Try.ntmps15
    repeat (first | (go_at_call 7; refine (sgood c _ _ (hv.kept ((But.refl _ _ _).alloc _)) hn hz).mono ?_; rintro e w3 ⟨rfl, k3⟩; have L3 := (Loc.new w [.int .i64 c.1, .slice ao c.2.length cap] 27).kept k3; have b0 := L3.cell 0 rfl; have b1 := L3.cell 1 rfl; have K3 : Hid (Kept w w3) := ((But.refl _ _ _).alloc _).trans k3; clear k3 L3; rw [d1]; dsimp only) | (go_at_call 18; refine (sin _ _ _ _).mono ?_; rintro e w4 ⟨rfl, hw4⟩; rw [hw4]; clear hw4 w4; rw [d2]; dsimp only) | go_values | go_skip | go_guarded | go_step | go_upon)
    go_ret2
    exact ⟨rfl, K3.out⟩
  have d2 : decide (0 ≤ m ∧ m ≤ 32) = true := decide_eq_true h2
  rcases (Decidable.em (0 ≤ a)).symm with h3 | h3
  · have d3 : decide (a < 0) = true := by simp; omega
    rw [takeA_no (fun h => h3 h.2.2.1)]
    go_enter Try.func15, Try.ntmps15
    repeat (first | (go_at_call 7; refine (sgood c _ _ (hv.kept ((But.refl _ _ _).alloc _)) hn hz).mono ?_; rintro e w3 ⟨rfl, k3⟩; have L3 := (Loc.new w [.int .i64 c.1, .slice ao c.2.length cap] 27).kept k3; have b0 := L3.cell 0 rfl; have b1 := L3.cell 1 rfl; have K3 : Hid (Kept w w3) := ((But.refl _ _ _).alloc _).trans k3; clear k3 L3; rw [d1]; dsimp only) | (go_at_call 18; refine (sin _ _ _ _).mono ?_; rintro e w4 ⟨rfl, hw4⟩; rw [hw4]; clear hw4 w4; rw [d2]; dsimp only) | go_values | go_skip | go_guarded | go_step | go_upon)
    go_ret2
    exact ⟨rfl, K3.out⟩
  have d3 : decide (a < 0) = false := by simp; omega
  rcases (Decidable.em (a ≤ c.1 - m)).symm with h4 | h4
  · have d4 : decide (a > c.1 - m) = true := by simp; omega
    rw [takeA_no (fun h => h4 h.2.2.2)]
    go_enter Try.func15, Try.ntmps15
    repeat (first | (go_at_call 7; refine (sgood c _ _ (hv.kept ((But.refl _ _ _).alloc _)) hn hz).mono ?_; rintro e w3 ⟨rfl, k3⟩; have L3 := (Loc.new w [.int .i64 c.1, .slice ao c.2.length cap] 27).kept k3; have b0 := L3.cell 0 rfl; have b1 := L3.cell 1 rfl; have K3 : Hid (Kept w w3) := ((But.refl _ _ _).alloc _).trans k3; clear k3 L3; rw [d1]; dsimp only) | (go_at_call 18; refine (sin _ _ _ _).mono ?_; rintro e w4 ⟨rfl, hw4⟩; rw [hw4]; clear hw4 w4; rw [d2]; dsimp only) | go_values | go_skip | go_guarded | go_step | go_upon)
    go_ret2
    exact ⟨rfl, K3.out⟩
  have d4 : decide (a > c.1 - m) = false := by simp; omega
  rw [takeA_yes ⟨H1.out, h2, h3, h4⟩]
  obtain ⟨x, rfl⟩ := Int.eq_ofNat_of_zero_le h3
  obtain ⟨y, rfl⟩ := Int.eq_ofNat_of_zero_le h2.1
  simp only [Int.toNat_natCast]
  go_enter Try.func15, Try.ntmps15
  repeat (first | (go_at_call 7; refine (sgood c _ _ (hv.kept ((But.refl _ _ _).alloc _)) hn hz).mono ?_; rintro e w3 ⟨rfl, k3⟩; have L3 := (Loc.new w [.int .i64 c.1, .slice ao c.2.length cap] 27).kept k3; have b0 := L3.cell 0 rfl; have b1 := L3.cell 1 rfl; have K3 : Hid (Kept w w3) := ((But.refl _ _ _).alloc _).trans k3; clear k3 L3; rw [d1]; dsimp only) | (go_at_call 18; refine (sin _ _ _ _).mono ?_; rintro e w4 ⟨rfl, hw4⟩; rw [hw4]; clear hw4 w4; rw [d2]; dsimp only) | go_values | go_skip | go_guarded | go_step | go_upon)
  go_at_call 29
  refine (stake c _ x y _ (hv.kept K3.out) (by omega) (by omega) (by omega)).mono ?_
  rintro e w5 ⟨rfl, k5⟩
  dsimp only
  repeat (first | go_values | go_skip | go_guarded | go_step | go_upon)
  go_ret2
  exact ⟨rfl, K3.out.trans k5⟩

end Go.Proofs.Ytaadlhcpgjibeaa
