/-
  Clouds marked, and their marks found again.
-/
import Derived.Test.YtpeiblodefaajaaDoorCloud
import Derived.Test.YtpeiblodefaajaaDoorMarks
namespace Go.Proofs.YtpeiblodefaajaaDoor
open Go.ChangeShapes Go.WideShapes Go.ChangeAt Go.RowKit

set_option maxRecDepth 100000
theorem markCloud (c : CloudD) (v : Value) (k lo hi : Nat) (w : World) (hv : CloudO w lo hi v c) (hb : k + 5 * c.2.2.length ≤ 1000000000000) :
    Calls Tryd.prog 20 #[v, .int .i64 (k : Int)] w fun e w' => e = .returned (.int .i64 ((k + 5 * c.2.2.length : Nat) : Int)) ∧ CloudO w' lo hi v (c.1, c.2.1, mSparks k c.2.2.length) ∧ But lo hi w w' := by
  obtain ⟨ao, cap, hfm⟩ := hv.form
  subst hfm
  have hr := hv.row
  go_enter Tryd.func20, Tryd.ntmps20
  repeat (first | go_values | go_skip | go_guarded | go_step | go_upon)
  go_at_call 48
  refine (markSparkS c.2.2 _ k lo hi _ (hr.kept ((But.refl _ _ _).alloc _)) hb).mono ?_
  rintro e u1 ⟨rfl, o1, b1⟩
  dsimp only
  repeat (first | go_values | go_skip | go_guarded | go_step | go_upon)
  go_ret
  exact ⟨rfl, ⟨_, rfl, o1⟩, ((But.refl _ _ _).alloc _).trans (b1.inner (hr.kept ((But.refl _ _ w).alloc (.cells #[.int .i64 c.1, .int .i64 c.2.1, .slice ao c.2.2.length cap] 27))))⟩

theorem heldCloud (x y : Int) (m : Nat) (v : Value) (k : Nat) (w : World) (hv : CloudAt w v (x, y, mSparks k m)) (hb : k + 5 * m ≤ 1000000000000) :
    Calls Tryd.prog 21 #[v, .int .i64 (k : Int)] w fun e w' => e = .returned (.int .i64 ((k + 5 * m : Nat) : Int)) ∧ Kept w w' := by
  obtain ⟨ao, cap, hfm⟩ := hv.form
  rw [show (x, y, mSparks k m).2.2.length = m from mSparks_len k m] at hfm
  subst hfm
  have hr := hv.row
  have hz : decide (((k + 5 * m : Nat) : Int) < 0) = false := by simp; omega
  go_enter Tryd.func21, Tryd.ntmps21
  repeat (first | go_values | go_skip | go_guarded | go_step | go_upon)
  go_at_call 49
  refine (heldSparkS m _ k _ (hr.kept ((But.refl _ _ _).alloc _)) hb).mono ?_
  rintro e u1 ⟨rfl, k1⟩
  generalize hqq : ((k + 5 * m : Nat) : Int) = q at *
  have HQ : Hid (((k + 5 * m : Nat) : Int) = q) := hqq
  clear hqq
  dsimp only
  repeat (first | go_values | go_skip | go_guarded | go_step | go_upon)
  go_ret
  exact ⟨ret_int HQ.out.symm, ((But.refl _ _ _).alloc _).trans k1⟩

end Go.Proofs.YtpeiblodefaajaaDoor
