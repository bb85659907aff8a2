/-
  A reader of bits gives the next one.
-/
import Derived.Test.YtaadlhcpgjibeaaTakeP23
import Derived.Test.YtaadlhcpgjibeaaGood23
namespace Go.Proofs.Ytaadlhcpgjibeaa
open Go.ChangeShapes Go.WideShapes Go.ChangeAt Go.RowKit

set_option maxRecDepth 100000
set_option linter.unusedVariables false
set_option linter.unusedSimpArgs false

theorem loc_next {w : World} {b : Nat} {x y z : Value} (h : Loc w b [x, y, z]) (u u' : Value) (e : u = u') : Loc (w.setCell ⟨b, 2, none⟩ u) b [x, y, u'] := by
  subst e
  exact h.set 2 u
theorem inext_end (l : List UInt8) (n : Int) (k br : Nat) (ao : Option Addr) (cap : Nat) (w : World) (hk : n = (k : Int)) (hL : Loc w br [.int .i64 n, .slice ao l.length cap, .int .i64 (k : Int)]) :
    Calls Try.prog 47 #[.pointer (some ⟨br, 0, none⟩)] w fun e w' => e = .returned (.tuple #[.int .i64 0, .bool false]) ∧ Kept w w' := by
  subst hk
  have b0 := hL.cell 0 rfl
  have b1 := hL.cell 1 rfl
  have b2 := hL.cell 2 rfl
  go_enter Try.func47, Try.ntmps47
  repeat (first | go_values | go_skip | go_guarded | go_step | go_upon)
  go_quiet (fail)
  repeat (first | go_values | go_skip | go_guarded | go_step | go_upon)
  go_ret2
  exact ⟨rfl, (But.refl _ _ _).drewN _⟩
theorem inext (l : List UInt8) (n : Int) (k br : Nat) (ao : Option Addr) (cap : Nat) (w : World) (hk : (k : Int) < n) (hn : n ≤ 4000) (hl : k < 8 * l.length) (hL : Loc w br [.int .i64 n, .slice ao l.length cap, .int .i64 (k : Int)]) (hr : BytAt w (.slice ao l.length cap) l) :
    Calls Try.prog 47 #[.pointer (some ⟨br, 0, none⟩)] w fun e w' => e = .returned (.tuple #[.int .i64 (bitAt l k : Nat), .bool true]) ∧ But br (br + 1) w w' ∧ Loc w' br [.int .i64 n, .slice ao l.length cap, .int .i64 ((k + 1 : Nat) : Int)] := by
  have b0 := hL.cell 0 rfl
  have b1 := hL.cell 1 rfl
  have b2 := hL.cell 2 rfl
  have hf2 := hL.frozen 2
  have d0 : ((k : Int) == n) = false := by simp; omega
  obtain ⟨x, hx, hbx⟩ := byte_at hl
  obtain ⟨g, o, cap1, ee, c0⟩ := byt_get hr hx
  cases ee
  have HB : Hid (bitAt l k = x.toNat / 2 ^ (7 - k % 8) % 2) := hbx
  clear hbx
  go_enter Try.func47, Try.ntmps47
  repeat (first | go_values | go_skip | go_guarded | go_step | go_upon)
  go_quiet (fail)
  repeat (first | go_values | go_skip | go_guarded | go_step | go_upon)
  go_quiet (fail)
  repeat (first | go_values | go_skip | go_guarded | go_step | go_upon)
  rw [u8_bit, ← HB.out]
  have hB2 := bitAt_lt l k
  rw [IntWalk.wrap64_in _ (by omega)]
  go_ret2
  refine ⟨rfl, ((But.refl _ _ _).drewN _).setCell (Nat.le_refl br) (Nat.lt_succ_self br) _, ?_⟩
  refine loc_next (Loc.kept hL ((But.refl _ _ w).drewN _)) (.int .i64 ((k : Int) + 1)) _ (by simp)

end Go.Proofs.Ytaadlhcpgjibeaa
