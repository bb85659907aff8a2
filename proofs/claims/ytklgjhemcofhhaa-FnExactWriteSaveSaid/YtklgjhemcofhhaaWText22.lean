/-
  A text laid behind bytes.
-/
import Derived.Test.YtklgjhemcofhhaaPure22
import Derived.Test.YtklgjhemcofhhaaOw22
import Derived.Laws.BitsAllLaws
namespace Go.Proofs.Ytklgjhemcofhhaa
open Go.ChangeShapes Go.WideShapes Go.ChangeAt Go.RowKit

set_option maxRecDepth 100000
set_option linter.unusedVariables false
set_option linter.unusedSimpArgs false
theorem u8_of (n : Nat) : ((UInt8.ofNat n).toNat : Int) = (n : Int) % 256 := by
  rw [UInt8.toNat_ofNat']
  omega

set_option maxHeartbeats 4000000 in
theorem withText (l : List BytD) (s : ByteArray) (ao : Option Addr) (cap lo hi : Nat) (w : World) (ho : BytO w lo hi (.slice ao l.length cap) l) (hlo : lo ≤ w.heap.size) (hl : l.length ≤ 1000000) (hs : s.size ≤ 255) :
    Calls Try.prog 30 #[.slice ao l.length cap, .string s] w fun e w' => ∃ v', e = .returned v' ∧ BytO w' lo w'.heap.size v' (l ++ textB s) ∧ ButV (.slice ao l.length cap) w w' := by
  have e9 : IntKind.u8.wrap (s.size : Int) = ((UInt8.ofNat s.size).toNat : Int) := by rw [IntKind.wrap_u8, u8_of]
  have HO : Hid (BytO w lo hi (.slice ao l.length cap) l) := ho
  obtain ⟨B, hB⟩ : ∃ B, UInt8.ofNat s.size = B := ⟨_, rfl⟩
  rw [hB] at e9
  have HB : Hid (UInt8.ofNat s.size = B) := hB
  clear ho hB
  go_enter Try.func30, Try.ntmps30
  repeat (first | (at_builtin; refine forgetL (fun w' => w' = _) rfl ?_) | go_values | go_skip | go_guarded | go_step | go_upon)
  intro W7 hW7
  rw [hW7]
  clear hW7 W7
  refine app1_byt rfl _ _ rfl (lo := lo) (hi := hi) rfl (HO.out.kept ((But.refl _ _ _).alloc _)) B rfl (Loc.new w [.int .u8 (B.toNat : Int)] 5) (by omega) (by simp; omega) ?_
  intro v5 w5 o5 b5 h4
  have K5 : Hid (ButV (.slice ao l.length cap) w w5) := butv_trans (butv_kept ((But.refl _ _ w).alloc (.cells #[.int .u8 (B.toNat : Int)] 5))) (ow_refl _ _) b5
  have W5 : Hid (Ow w (.slice ao l.length cap) v5) := ow_app h4 (by simp)
  have hsz : w.heap.size ≤ w5.heap.size := K5.out.size
  obtain ⟨a5, p5, hf⟩ := o5.form
  subst hf
  have O5 : Hid (BytO w5 lo w5.heap.size (.slice a5 (l ++ [B]).length p5) (l ++ [B])) := o5
  obtain ⟨X, hX⟩ : ∃ X, l ++ [B] = X := ⟨_, rfl⟩
  have HXL : Hid (X.length = l.length + 1) := by show _ = _; rw [← hX]; simp
  rw [hX] at O5 W5 ⊢
  have HX : Hid (l ++ [B] = X) := hX
  clear o5 b5 h4 e9 hX
  repeat (first | (at_builtin; refine forgetL (fun w' => w' = _) rfl ?_) | go_values | go_skip | go_guarded | go_step | go_upon)
  intro W7 hW7
  rw [hW7]
  clear hW7 W7
  refine apps_byt rfl _ _ rfl (lo := lo) (hi := w5.heap.size) rfl O5.out s rfl (by have := HXL.out; omega) (by omega) ?_
  intro v6 w6 o6 b6
  obtain ⟨a6, p6, hf⟩ := o6.form
  subst hf
  have O6 : Hid (BytO w6 lo w6.heap.size (.slice a6 (X ++ s.data.toList).length p6) (X ++ s.data.toList)) := o6
  have K6 : Hid (ButV (.slice ao l.length cap) w w6) := butv_trans K5.out W5.out b6
  obtain ⟨Z, hZ⟩ : ∃ Z, X ++ s.data.toList = Z := ⟨_, rfl⟩
  rw [hZ] at O6 ⊢
  have HZ : Hid (l ++ textB s = Z) := by show _ = _; rw [← hZ, ← HX.out]; unfold textB; rw [HB.out]; simp
  clear hZ o6 b6 K5
  repeat (first | go_values | go_skip | go_guarded | go_step | go_upon)
  go_ret
  exact ⟨_, rfl, by rw [HZ.out]; exact O6.out, K6.out⟩

end Go.Proofs.Ytklgjhemcofhhaa
