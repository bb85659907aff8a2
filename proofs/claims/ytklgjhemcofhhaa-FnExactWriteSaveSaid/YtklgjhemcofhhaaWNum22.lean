/-
  A number laid behind bytes.
-/
import Derived.Test.YtklgjhemcofhhaaWText22
namespace Go.Proofs.Ytklgjhemcofhhaa
open Go.ChangeShapes Go.WideShapes Go.ChangeAt Go.RowKit

set_option maxRecDepth 100000
set_option linter.unusedVariables false
set_option linter.unusedSimpArgs false

theorem numByte_shr (n : Int) (k : Nat) (hk : k < 8) : IntKind.u8.wrap (n / ((2 ^ (8 * k) : Nat) : Int)) = ((numByte n k).toNat : Int) := by
  unfold numByte
  rw [IntKind.wrap_u8, u8_of]
  have h1 : 0 ≤ (n / ((2 ^ (8 * k) : Nat) : Int)) % 256 := Int.emod_nonneg _ (by decide)
  have h2 : (n / ((2 ^ (8 * k) : Nat) : Int)) % 256 < 256 := Int.emod_lt_of_pos _ (by decide)
  omega
theorem nums_snoc (n : Int) (k : Nat) : (List.range (k + 1)).map (numByte n) = (List.range k).map (numByte n) ++ [numByte n k] := by
  rw [List.range_succ, List.map_append]
  rfl

set_option maxHeartbeats 4000000 in
theorem withNum (l : List BytD) (n : Int) (ao : Option Addr) (cap lo hi : Nat) (w : World) (ho : BytO w lo hi (.slice ao l.length cap) l) (hlo : lo ≤ w.heap.size) (hl : l.length ≤ 1000000) :
    Calls Try.prog 31 #[.slice ao l.length cap, .int .i64 n] w fun e w' => ∃ v', e = .returned v' ∧ BytO w' lo w'.heap.size v' (l ++ numBytes n) ∧ ButV (.slice ao l.length cap) w w' := by
  have HO : Hid (BytO w lo hi (.slice ao l.length cap) l) := ho
  have HL : Hid (l.length ≤ 1000000) := hl
  clear ho hl
  go_enter Try.func31, Try.ntmps31
  repeat (first | go_values | go_skip | go_guarded | go_step | go_upon)
  go_loopw [0, 6] (fun s i wr => ∃ (k : Nat) (X : List BytD), k ≤ 8 ∧ i = .int .i64 k ∧ Hid (l ++ (List.range k).map (numByte n) = X) ∧ (∃ h9, BytO wr lo h9 s X) ∧ lo ≤ wr.heap.size ∧ Ow w (.slice ao l.length cap) s ∧ ButV (.slice ao l.length cap) w wr) (fun s i _ => 8 - (intOf i).toNat)
  case atStart => exact ⟨0, l, by omega, rfl, by show _ = _; simp, ⟨hi, HO.out⟩, hlo, ow_refl _ _, But.refl _ _ _⟩
  case round =>
    obtain ⟨k, X, hk, rfl, HX, ⟨h9, ox⟩, hsz, hw, hkp⟩ := hrel
    obtain ⟨a5, p5, hf⟩ := ox.form
    subst hf
    have hxl : X.length = l.length + k := by rw [← HX.out]; simp
    by_cases hlt : k < 8
    · have dlt : decide ((k : Int) < 8) = true := decide_eq_true (by omega)
      have hb2 : X.length + 1 ≤ 100000000 := by have := HL.out; omega
      obtain ⟨B, hB⟩ : ∃ B, numByte n k = B := ⟨_, rfl⟩
      have e9 := numByte_shr n k hlt
      rw [hB] at e9
      have e9' : n / 2 ^ (8 * k) % 256 = (B.toNat : Int) := by
        rw [IntKind.wrap_u8] at e9
        rw [← e9]
        simp
      have HB : Hid (numByte n k = B) := hB
      have OX : Hid (BytO wr lo h9 (.slice a5 X.length p5) X) := ox
      have HK : Hid (ButV (.slice ao l.length cap) w wr) := hkp
      have HW : Hid (Ow w (.slice ao l.length cap) (.slice a5 X.length p5)) := hw
      have HXL : Hid (X.length + 1 ≤ 100000000) := hb2
      have e8 : IntKind.i64.wrap (8 * (k : Int)) = 8 * (k : Int) := by rw [IntWalk.i64_in _ (by omega)]
      have e7 : n / 2 ^ min (8 * (k : Int)).toNat 64 = n / ((2 ^ (8 * k) : Nat) : Int) := by
        rw [show min (8 * (k : Int)).toNat 64 = 8 * k by omega]
        simp
      have hsh : decide (8 * (k : Int) < 0) = false := decide_eq_false (by omega)
      clear hkp hB hxl hb2 ox hw
      repeat (first | (at_builtin; refine forgetL (fun w' => w' = _) rfl ?_) | go_values | go_skip | go_guarded | go_step | go_upon)
      intro W7 hW7
      rw [hW7]
      clear hW7 W7
      refine app1_byt rfl _ _ rfl (lo := lo) (hi := h9) rfl (OX.out.kept ((But.refl _ _ _).alloc _)) B rfl (Loc.new wr [.int .u8 (B.toNat : Int)] 5) HXL.out (by simp; omega) ?_
      intro v5 w5 o5 b5 h4
      have K5 : Hid (ButV (.slice ao l.length cap) w w5) := butv_trans (butv_trans HK.out HW.out (butv_kept ((But.refl _ _ wr).alloc (.cells #[.int .u8 (B.toNat : Int)] 5)))) HW.out b5
      have W5 : Hid (Ow w (.slice ao l.length cap) v5) := ow_trans HK.out.size HW.out (ow_app h4 (by simp))
      have hs5 : lo ≤ w5.heap.size := by have := b5.size; simp at this; omega
      obtain ⟨a6, p6, hf⟩ := o5.form
      subst hf
      have O5 : Hid (BytO w5 lo w5.heap.size (.slice a6 (X ++ [B]).length p6) (X ++ [B])) := o5
      obtain ⟨Z, hZ⟩ : ∃ Z, X ++ [B] = Z := ⟨_, rfl⟩
      rw [hZ] at O5 W5 ⊢
      have HZ : Hid (l ++ (List.range (k + 1)).map (numByte n) = Z) := by show _ = _; rw [nums_snoc, HB.out, ← List.append_assoc, HX.out, hZ]
      clear hZ o5 b5 h4 e7 e8 e9 e9' HK HW OX
      repeat (first | go_values | go_skip | go_guarded | go_step | go_upon)
      exact ⟨⟨k + 1, Z, by omega, by go_num, HZ.out, ⟨_, O5.out⟩, hs5, W5.out, K5.out⟩, by simp [intOf]; omega⟩
    · have hke : k = 8 := by omega
      subst hke
      have OX : Hid (BytO wr lo h9 (.slice a5 X.length p5) X) := ox
      have HK : Hid (ButV (.slice ao l.length cap) w wr) := hkp
      clear hxl hkp ox
      repeat (first | go_values | go_skip | go_guarded | go_step | go_upon)
      go_ret
      refine ⟨_, rfl, ?_, HK.out⟩
      have := HX.out
      unfold numBytes
      rw [this]
      exact OX.out.low

end Go.Proofs.Ytklgjhemcofhhaa
