/-
  Stores marked, and their marks found again.
-/
import Derived.Test.YtipgffikmnebnaaStore
import Derived.Test.YtipgffikmnebnaaResidentM
namespace Go.Proofs.Ytipgffikmnebnaa
open Go.ChangeShapes Go.WideShapes Go.ChangeAt Go.RowKit

set_option maxRecDepth 100000
theorem markStore (c : StoreD) (v : Value) (k lo hi : Nat) (w : World) (hv : StoreO w lo hi v c) (hb : k + 4 * c.2.2.length ≤ 1000000000000) :
    Calls Try.prog 44 #[v, .int .i64 (k : Int)] w fun e w' => e = .returned (.int .i64 ((k + 4 * c.2.2.length : Nat) : Int)) ∧ StoreO w' lo hi v (c.1, c.2.1, mResidents k c.2.2.length) ∧ But lo hi w w' := by
  obtain ⟨ao, cap, hfm⟩ := hv.form
  subst hfm
  have hr := hv.row
  go_enter Try.func44, Try.ntmps44
  repeat (first | go_values | go_skip | go_guarded | go_step | go_upon)
  go_at_call 98
  refine (markResidentS c.2.2 _ k lo hi _ (hr.kept ((But.refl _ _ _).alloc _)) hb).mono ?_
  rintro e u1 ⟨rfl, o1, b1⟩
  dsimp only
  repeat (first | go_values | go_skip | go_guarded | go_step | go_upon)
  go_ret
  exact ⟨rfl, ⟨_, rfl, o1⟩, ((But.refl _ _ _).alloc _).trans (b1.inner (hr.kept ((But.refl _ _ w).alloc (.cells #[.int .i64 c.1, .int .i64 c.2.1, .slice ao c.2.2.length cap] 33))))⟩

theorem heldStore (x y : Int) (m : Nat) (v : Value) (k : Nat) (w : World) (hv : StoreAt w v (x, y, mResidents k m)) (hb : k + 4 * m ≤ 1000000000000) :
    Calls Try.prog 45 #[v, .int .i64 (k : Int)] w fun e w' => e = .returned (.int .i64 ((k + 4 * m : Nat) : Int)) ∧ Kept w w' := by
  obtain ⟨ao, cap, hfm⟩ := hv.form
  rw [show (x, y, mResidents k m).2.2.length = m from mResidents_len k m] at hfm
  subst hfm
  have hr := hv.row
  have hz : decide (((k + 4 * m : Nat) : Int) < 0) = false := by simp; omega
  go_enter Try.func45, Try.ntmps45
  repeat (first | go_values | go_skip | go_guarded | go_step | go_upon)
  go_at_call 99
  refine (heldResidentS m _ k _ (hr.kept ((But.refl _ _ _).alloc _)) hb).mono ?_
  rintro e u1 ⟨rfl, k1⟩
  generalize hqq : ((k + 4 * m : Nat) : Int) = q at *
  have HQ : Hid (((k + 4 * m : Nat) : Int) = q) := hqq
  clear hqq
  dsimp only
  repeat (first | go_values | go_skip | go_guarded | go_step | go_upon)
  go_ret
  exact ⟨ret_int HQ.out.symm, ((But.refl _ _ _).alloc _).trans k1⟩

end Go.Proofs.Ytipgffikmnebnaa
