/-
  Bits marked, and their marks found again.
-/
import Derived.Test.YtaadlhcpgjibeaaBits
namespace Go.Proofs.Ytaadlhcpgjibeaa
open Go.ChangeShapes Go.WideShapes Go.ChangeAt Go.RowKit

set_option maxRecDepth 100000
theorem markBits (c : BitsD) (v : Value) (k lo hi : Nat) (w : World) (hv : BitsO w lo hi v c) (hb : k + c.2.length ≤ 1000000000000) :
    Calls Try.prog 13 #[v, .int .i64 (k : Int)] w fun e w' => e = .returned (.int .i64 ((k + c.2.length : Nat) : Int)) ∧ BitsO w' lo hi v (c.1, mByt k c.2.length) ∧ But lo hi w w' := by
  obtain ⟨ao, cap, hfm⟩ := hv.form
  subst hfm
  have hr := hv.row
  go_enter Try.func13, Try.ntmps13
  repeat (first | go_values | go_skip | go_guarded | go_step | go_upon)
  go_at_call 27
  refine (markBytS c.2 _ k lo hi _ (hr.kept ((But.refl _ _ _).alloc _)) hb).mono ?_
  rintro e u1 ⟨rfl, o1, b1⟩
  dsimp only
  repeat (first | go_values | go_skip | go_guarded | go_step | go_upon)
  go_ret
  exact ⟨rfl, ⟨_, rfl, o1⟩, ((But.refl _ _ _).alloc _).trans (b1.inner (hr.kept ((But.refl _ _ w).alloc (.cells #[.int .i64 c.1, .slice ao c.2.length cap] 27))))⟩

theorem heldBits (x : Int) (m : Nat) (v : Value) (k : Nat) (w : World) (hv : BitsAt w v (x, mByt k m)) (hb : k + m ≤ 1000000000000) :
    Calls Try.prog 14 #[v, .int .i64 (k : Int)] w fun e w' => e = .returned (.int .i64 ((k + m : Nat) : Int)) ∧ Kept w w' := by
  obtain ⟨ao, cap, hfm⟩ := hv.form
  rw [show (x, mByt k m).2.length = m from mByt_len k m] at hfm
  subst hfm
  have hr := hv.row
  have hz : decide (((k + m : Nat) : Int) < 0) = false := by simp; omega
  go_enter Try.func14, Try.ntmps14
  repeat (first | go_values | go_skip | go_guarded | go_step | go_upon)
  go_at_call 28
  refine (heldBytS m _ k _ (hr.kept ((But.refl _ _ _).alloc _)) hb).mono ?_
  rintro e u1 ⟨rfl, k1⟩
  generalize hqq : ((k + m : Nat) : Int) = q at *
  have HQ : Hid (((k + m : Nat) : Int) = q) := hqq
  clear hqq
  dsimp only
  repeat (first | go_values | go_skip | go_guarded | go_step | go_upon)
  go_ret
  exact ⟨ret_int HQ.out.symm, ((But.refl _ _ _).alloc _).trans k1⟩

end Go.Proofs.Ytaadlhcpgjibeaa
