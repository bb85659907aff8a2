/-
  Clocks held against one another, and marked.
-/
import Derived.Test.YthihgjcnjgpegaaClock
import Derived.Test.YthihgjcnjgpegaaEq
import Derived.Test.YthihgjcnjgpegaaMarks
namespace Go.Proofs.Ythihgjcnjgpegaa
open Go.ChangeShapes Go.WideShapes Go.ChangeAt Go.RowKit

set_option maxRecDepth 100000
theorem eqClock (c : ClockD) (v v' : Value) (w : World) (hv : ClockAt w v c) (hv' : ClockAt w v' c) (hn : c.2.length ≤ 9000000000000000000) :
    Calls Try.prog 19 #[v, v'] w fun e w' => e = .returned (.bool true) ∧ Kept w w' := by
  obtain ⟨ao, cap, hfm⟩ := hv.form
  subst hfm
  obtain ⟨ao', cap', hfm⟩ := hv'.form
  subst hfm
  have hr := hv.row
  have hr' := hv'.row
  go_enter Try.func19, Try.ntmps19
  repeat (first | go_values | go_skip | go_guarded | go_step | go_upon)
  go_at_call 51
  refine (eqTimerS c.2 _ _ _ (hr.kept (((But.refl _ _ _).alloc _).alloc _)) (hr'.kept (((But.refl _ _ _).alloc _).alloc _)) hn).mono ?_
  rintro e u1 ⟨rfl, k1⟩
  dsimp only
  repeat (first | go_values | go_skip | go_guarded | go_step | go_upon)
  go_ret
  exact ⟨rfl, (((But.refl _ _ _).alloc _).alloc _).trans k1⟩

theorem markClock (c : ClockD) (v : Value) (k lo hi : Nat) (w : World) (hv : ClockO w lo hi v c) (hb : k + 4 * c.2.length ≤ 1000000000000) :
    Calls Try.prog 23 #[v, .int .i64 (k : Int)] w fun e w' => e = .returned (.int .i64 ((k + 4 * c.2.length : Nat) : Int)) ∧ ClockO w' lo hi v (c.1, mTimers k c.2.length) ∧ But lo hi w w' := by
  obtain ⟨ao, cap, hfm⟩ := hv.form
  subst hfm
  have hr := hv.row
  go_enter Try.func23, Try.ntmps23
  repeat (first | go_values | go_skip | go_guarded | go_step | go_upon)
  go_at_call 55
  refine (markTimerS c.2 _ k lo hi _ (hr.kept ((But.refl _ _ _).alloc _)) hb).mono ?_
  rintro e u1 ⟨rfl, o1, b1⟩
  dsimp only
  repeat (first | go_values | go_skip | go_guarded | go_step | go_upon)
  go_ret
  exact ⟨rfl, ⟨_, rfl, o1⟩, ((But.refl _ _ _).alloc _).trans (b1.inner (hr.kept ((But.refl _ _ w).alloc (.cells #[.int .i64 c.1, .slice ao c.2.length cap] 25))))⟩

theorem heldClock (x : Int) (m : Nat) (v : Value) (k : Nat) (w : World) (hv : ClockAt w v (x, mTimers k m)) (hb : k + 4 * m ≤ 1000000000000) :
    Calls Try.prog 24 #[v, .int .i64 (k : Int)] w fun e w' => e = .returned (.int .i64 ((k + 4 * m : Nat) : Int)) ∧ Kept w w' := by
  obtain ⟨ao, cap, hfm⟩ := hv.form
  rw [show (x, mTimers k m).2.length = m from mTimers_len k m] at hfm
  subst hfm
  have hr := hv.row
  have hz : decide (((k + 4 * m : Nat) : Int) < 0) = false := by simp; omega
  go_enter Try.func24, Try.ntmps24
  repeat (first | go_values | go_skip | go_guarded | go_step | go_upon)
  go_at_call 56
  refine (heldTimerS m _ k _ (hr.kept ((But.refl _ _ _).alloc _)) hb).mono ?_
  rintro e u1 ⟨rfl, k1⟩
  generalize hqq : ((k + 4 * m : Nat) : Int) = q at *
  have HQ : Hid (((k + 4 * m : Nat) : Int) = q) := hqq
  clear hqq
  dsimp only
  repeat (first | go_values | go_skip | go_guarded | go_step | go_upon)
  go_ret
  exact ⟨ret_int HQ.out.symm, ((But.refl _ _ _).alloc _).trans k1⟩

end Go.Proofs.Ythihgjcnjgpegaa
