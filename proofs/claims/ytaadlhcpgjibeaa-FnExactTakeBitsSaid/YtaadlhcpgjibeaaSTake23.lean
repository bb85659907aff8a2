/-
  The specification takes bits.
-/
import Derived.Test.YtaadlhcpgjibeaaTakeP23
import Derived.Test.YtaadlhcpgjibeaaGood23
namespace Go.Proofs.Ytaadlhcpgjibeaa
open Go.ChangeShapes Go.WideShapes Go.ChangeAt Go.RowKit

set_option maxRecDepth 100000
set_option linter.unusedVariables false
set_option linter.unusedSimpArgs false

set_option maxHeartbeats 4000000 in
theorem stake (c : BitsD) (v : Value) (a m : Nat) (w : World) (hv : BitsAt w v c) (hn : c.2.length ≤ 1000000) (hb : a + m ≤ 8 * c.2.length) (hm : m ≤ 32) :
    Calls Try.prog 29 #[v, .int .i64 (a : Int), .int .i64 (m : Int)] w fun e w' => e = .returned (.int .i64 (takeN c.2 a m : Nat)) ∧ Kept w w' := by
  obtain ⟨ao, cap, hfm⟩ := hv.form
  subst hfm
  have hr := hv.row
  obtain ⟨W1, hW1⟩ : ∃ W1, W1 = w.alloc (.cells #[.int .i64 c.1, .slice ao c.2.length cap] 27) := ⟨_, rfl⟩
  have K1 : Kept w W1 := by rw [hW1]; exact (But.refl _ _ _).alloc _
  have L1 : Loc W1 w.heap.size [.int .i64 c.1, .slice ao c.2.length cap] := by rw [hW1]; exact Loc.new w [.int .i64 c.1, .slice ao c.2.length cap] 27
  have b1 := L1.cell 1 rfl
  have hr := hr.kept K1
  go_enter Try.func29, Try.ntmps29
  repeat (first | go_values | go_skip | go_guarded | go_step | go_upon)
  rw [← hW1]
  clear hW1
  go_loopw [7, 8] (fun n k wr => ∃ j : Nat, j ≤ m ∧ n = .int .i64 (takeN c.2 a j : Nat) ∧ k = .int .i64 ((a + j : Nat) : Int) ∧ wr = W1) (fun _ k _ => a + m - (intOf k).toNat)
  case atStart => exact ⟨0, by omega, rfl, rfl, rfl⟩
  case round =>
    obtain ⟨j, hj, rfl, rfl, rfl⟩ := hrel
    by_cases hlt : j < m
    · obtain ⟨x, hx, hbx⟩ := byte_at (l := c.2) (k := a + j) (by omega)
      obtain ⟨g, o, cap1, ee, c0⟩ := byt_get hr hx
      cases ee
      obtain ⟨N, hN⟩ : ∃ N, takeN c.2 a j = N := ⟨_, rfl⟩
      have hN1 : N < 4294967296 := hN ▸ takeN_le _ _ _ _ hj hm
      have HN : Hid (takeN c.2 a j = N) := hN
      have HB : Hid (bitAt c.2 (a + j) = x.toNat / 2 ^ (7 - (a + j) % 8) % 2) := hbx
      rw [hN]
      clear hN hbx
      repeat (first | go_values | go_skip | go_guarded | go_step | go_upon)
      rw [u8_bit, ← HB.out]
      have hB2 := bitAt_lt c.2 (a + j)
      rw [IntWalk.wrap64_in ((bitAt c.2 (a + j) : Nat) : Int) (by omega), IntWalk.wrap64_in _ (by omega)]
      refine ⟨⟨j + 1, by omega, ?_, by simp; omega, trivial⟩, by simp [intOf]; omega⟩
      rw [takeN, HN.out]
      simp
    · have hjm : j = m := by omega
      subst hjm
      repeat (first | go_values | go_skip | go_guarded | go_step | go_upon)
      go_ret
      exact ⟨rfl, K1⟩

end Go.Proofs.Ytaadlhcpgjibeaa
