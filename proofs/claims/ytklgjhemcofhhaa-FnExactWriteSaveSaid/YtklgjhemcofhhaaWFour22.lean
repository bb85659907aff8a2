/-
  Four bytes of a number laid behind bytes.
-/
import Derived.Test.YtklgjhemcofhhaaWText22
namespace Go.Proofs.Ytklgjhemcofhhaa
open Go.ChangeShapes Go.WideShapes Go.ChangeAt Go.RowKit

set_option maxRecDepth 100000
set_option linter.unusedVariables false
set_option linter.unusedSimpArgs false

set_option maxHeartbeats 4000000 in
theorem withFour (l : List BytD) (d : Nat) (ao : Option Addr) (cap lo hi : Nat) (w : World) (ho : BytO w lo hi (.slice ao l.length cap) l) (hlo : lo ≤ w.heap.size) (hl : l.length ≤ 1000000) (hd : d < 4294967296) :
    Calls Try.prog 32 #[.slice ao l.length cap, .int .u32 (d : Int)] w fun e w' => ∃ v', e = .returned v' ∧ BytO w' lo w'.heap.size v' (l ++ fourB d) ∧ ButV (.slice ao l.length cap) w w' := by
  have HO : Hid (BytO w lo hi (.slice ao l.length cap) l) := ho
  have e1 : IntKind.u8.wrap ((d : Int) / 16777216) = ((UInt8.ofNat (d / 16777216)).toNat : Int) := by rw [IntKind.wrap_u8, u8_of]; omega
  have e2 : IntKind.u8.wrap ((d : Int) / 65536) = ((UInt8.ofNat (d / 65536)).toNat : Int) := by rw [IntKind.wrap_u8, u8_of]; omega
  have e3 : IntKind.u8.wrap ((d : Int) / 256) = ((UInt8.ofNat (d / 256)).toNat : Int) := by rw [IntKind.wrap_u8, u8_of]; omega
  have e4 : IntKind.u8.wrap (d : Int) = ((UInt8.ofNat d).toNat : Int) := by rw [IntKind.wrap_u8, u8_of]
  have HF : Hid (fourB d = [UInt8.ofNat (d / 16777216), UInt8.ofNat (d / 65536), UInt8.ofNat (d / 256), UInt8.ofNat d]) := rfl
  generalize UInt8.ofNat (d / 16777216) = B1 at *
  generalize UInt8.ofNat (d / 65536) = B2 at *
  generalize UInt8.ofNat (d / 256) = B3 at *
  generalize UInt8.ofNat d = B4 at *
  clear ho
  go_enter Try.func32, Try.ntmps32
  repeat (first | (at_builtin; refine forgetL (fun w' => w' = _) rfl ?_) | go_values | go_skip | go_guarded | go_step | go_upon)
  intro W7 hW7
  rw [hW7]
  clear hW7 W7
  refine appv_byt rfl _ _ rfl (lo := lo) (hi := hi) rfl (HO.out.kept ((But.refl _ _ _).alloc _)) (qs := [B1, B2, B3, B4]) rfl ⟨_, _, rfl, fun j x hj => ⟨w.heap.size, 0, rfl, by rw [Nat.zero_add]; exact (Loc.new w [.int .u8 (B1.toNat : Int), .int .u8 (B2.toNat : Int), .int .u8 (B3.toNat : Int), .int .u8 (B4.toNat : Int)] 5).cell j (by simpa [bytC] using hj)⟩⟩ rfl (by simp; omega) (by simp; omega) ?_
  intro v5 w5 o5 b5
  have K5 : Hid (ButV (.slice ao l.length cap) w w5) := butv_trans (butv_kept ((But.refl _ _ w).alloc (.cells #[.int .u8 (B1.toNat : Int), .int .u8 (B2.toNat : Int), .int .u8 (B3.toNat : Int), .int .u8 (B4.toNat : Int)] 5))) (ow_refl _ _) b5
  obtain ⟨a5, p5, hf⟩ := o5.form
  subst hf
  obtain ⟨Z, hZ⟩ : ∃ Z, l ++ [B1, B2, B3, B4] = Z := ⟨_, rfl⟩
  rw [hZ] at o5 ⊢
  have O5 : Hid (BytO w5 lo w5.heap.size (.slice a5 Z.length p5) Z) := o5
  have HZ : Hid (l ++ fourB d = Z) := by show _ = _; rw [HF.out, hZ]
  clear hZ o5 b5 e1 e2 e3 e4
  repeat (first | go_values | go_skip | go_guarded | go_step | go_upon)
  go_ret
  exact ⟨_, rfl, by rw [HZ.out]; exact O5.out, K5.out⟩

end Go.Proofs.Ytklgjhemcofhhaa
