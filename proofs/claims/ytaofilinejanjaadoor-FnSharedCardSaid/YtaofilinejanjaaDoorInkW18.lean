/-
  The ink of a text.
-/
import Derived.Test.YtaofilinejanjaaDoorInk18
import Derived.Test.YtaofilinejanjaaDoorWrapT18
import Derived.Test.YtaofilinejanjaaDoorQuiet
namespace Go.Proofs.YtaofilinejanjaaDoor
open Go.ChangeShapes Go.WideShapes Go.ChangeAt Go.RowKit

set_option maxRecDepth 100000
set_option linter.unusedVariables false

theorem ink_ext (s : ByteArray) (k : Nat) (h : k < s.size) : ink (s.extract 0 (k + 1)) = ink (s.extract 0 k) ++ ink (s.extract k (k + 1)) := (ink_cut s 0 k (k + 1) (by omega) (by omega)).symm
theorem byte_u (s : ByteArray) (k : Nat) (h : k < s.size) : (s.extract k (k + 1)).data.toList = [s[k]'h] := by
  rw [ext_list, show k + 1 - k = 1 by omega]
  have e : s.data.toList.drop k = (s[k]'h) :: s.data.toList.drop (k + 1) := by
    rw [List.drop_eq_getElem_cons (by simpa using h)]
    rfl
  rw [e]
  rfl
theorem byt_u (s : ByteArray) (k : Nat) (h : k < s.size) (c : UInt8) : (s[k]'h) = c ↔ byt s k = (c.toNat : Int) := by
  rw [byt_ix s k h]
  constructor
  · intro e; rw [e]
  · intro e; exact UInt8.toNat_inj.1 (by omega)
theorem ink_one (s : ByteArray) (k : Nat) (h : k < s.size) : (byt s k = 32 ∨ byt s k = 10 → ink (s.extract k (k + 1)) = []) ∧ (byt s k ≠ 32 → byt s k ≠ 10 → ink (s.extract k (k + 1)) = (s.extract k (k + 1)).data.toList) := by
  unfold ink
  rw [byte_u s k h]
  refine ⟨fun hb => ?_, fun h1 h2 => ?_⟩
  · have : inkB (s[k]'h) = false := by
      unfold inkB
      rcases hb with hb | hb
      · rw [(byt_u s k h 32).2 hb]; rfl
      · rw [(byt_u s k h 10).2 hb]; rfl
    simp [this]
  · have : inkB (s[k]'h) = true := by
      unfold inkB
      have g1 : (s[k]'h) ≠ 32 := fun e => h1 ((byt_u s k h 32).1 e)
      have g2 : (s[k]'h) ≠ 10 := fun e => h2 ((byt_u s k h 10).1 e)
      simp [g1, g2]
    simp [this]
/-- The ink of a text, as a text. -/
def inkS (s : ByteArray) : ByteArray := ⟨(ink s).toArray⟩
theorem inkS_of {s t : ByteArray} (h : t.data.toList = ink s) : t = inkS s := by
  unfold inkS
  rw [← h]
set_option maxHeartbeats 4000000 in
theorem inked (s : ByteArray) (w : World) (hs : s.size ≤ 100000000) : Calls Tryd.prog 14 #[.string s] w fun e w' => e = .returned (.string (inkS s)) ∧ w' = w := by
  go_enter Tryd.func14, Tryd.ntmps14
  repeat (first | go_values | go_skip | go_guarded | go_step | go_upon)
  go_loopw [3, 4] (fun v i wr => wr = w ∧ ∃ (k : Nat) (t : ByteArray), k ≤ s.size ∧ i = .int .i64 k ∧ v = .string t ∧ t.size ≤ k ∧ Hid (t.data.toList = ink (s.extract 0 k))) (fun v i _ => s.size - (intOf i).toNat)
  case atStart => exact ⟨rfl, 0, ByteArray.empty, by omega, rfl, rfl, by simp, (show ByteArray.empty.data.toList = ink (s.extract 0 0) from by rw [ink_nil (fun j hj => by rw [ByteArray.size_extract] at hj; omega)]; rfl)⟩
  case round =>
    obtain ⟨hwr, k, t, hk, rfl, rfl, htk, HT⟩ := hrel
    rw [hwr]
    clear hwr
    by_cases hlt : k < s.size
    · have dl : decide ((k : Int) < (s.size : Int)) = true := decide_eq_true (by omega)
      have hix := fun W => ix_str s k (k : Int) rfl hlt W
      have e1 : IntKind.i64.wrap ((k : Int) + 1) = ((k + 1 : Nat) : Int) := by rw [IntWalk.i64_in _ (by omega)]; omega
      have hsl := fun W => sl_mid s k (k + 1) (k : Int) ((k + 1 : Nat) : Int) rfl rfl (by omega) (by omega) W
      have HX : Hid (ink (s.extract 0 (k + 1)) = ink (s.extract 0 k) ++ ink (s.extract k (k + 1))) := ink_ext s k hlt
      have HO : Hid ((byt s k = 32 ∨ byt s k = 10 → ink (s.extract k (k + 1)) = []) ∧ (byt s k ≠ 32 → byt s k ≠ 10 → ink (s.extract k (k + 1)) = (s.extract k (k + 1)).data.toList)) := ink_one s k hlt
      have hu : (s.extract k (k + 1)).size = 1 := by rw [ByteArray.size_extract]; omega
      have hbig : ¬ 9223372036854775807 < t.size + (s.extract k (k + 1)).size := by omega
      have HU : Hid ((s.extract k (k + 1)).size = 1) := hu
      clear hu
      by_cases h1 : byt s k = 32
      · have d1 : (byt s k == 32) = true := by simp [h1]
        have HN : Hid (t.data.toList = ink (s.extract 0 (k + 1))) := show t.data.toList = ink (s.extract 0 (k + 1)) from by rw [HX.out, HO.out.1 (.inl h1), List.append_nil]; exact HT.out
        clear HX HO HT
        repeat (first | go_values | go_skip | go_guarded | go_step | go_upon)
        exact ⟨⟨by trivial, k + 1, t, hlt, by go_num, rfl, by omega, HN⟩, by simp [intOf]; omega⟩
      have d1 : (byt s k == 32) = false := by simp [h1]
      by_cases h2 : byt s k = 10
      · have d2 : (byt s k == 10) = true := by simp [h2]
        have HN : Hid (t.data.toList = ink (s.extract 0 (k + 1))) := show t.data.toList = ink (s.extract 0 (k + 1)) from by rw [HX.out, HO.out.1 (.inr h2), List.append_nil]; exact HT.out
        clear HX HO HT
        repeat (first | go_values | go_skip | go_guarded | go_step | go_upon)
        exact ⟨⟨by trivial, k + 1, t, hlt, by go_num, rfl, by omega, HN⟩, by simp [intOf]; omega⟩
      have d2 : (byt s k == 10) = false := by simp [h2]
      have n1 : (byt s k != 32) = true := by simp [h1]
      have n2 : (byt s k != 10) = true := by simp [h2]
      have HN : Hid ((t ++ s.extract k (k + 1)).data.toList = ink (s.extract 0 (k + 1))) := show (t ++ s.extract k (k + 1)).data.toList = ink (s.extract 0 (k + 1)) from by rw [HX.out, HO.out.2 h1 h2, ← HT.out, ByteArray.data_append, Array.toList_append]
      clear HX HO HT
      repeat (first | go_values | go_skip | go_guarded | go_step | go_upon)
      exact ⟨⟨by trivial, k + 1, t ++ s.extract k (k + 1), hlt, by go_num, rfl, by rw [ByteArray.size_append]; have := HU.out; omega, HN⟩, by simp [intOf]; omega⟩
    · have hke : k = s.size := by omega
      subst hke
      have hR : t = inkS s := inkS_of (by have := HT.out; rw [ext_whole] at this; exact this)
      subst hR
      clear HT htk
      have dl : decide ((s.size : Int) < (s.size : Int)) = false := decide_eq_false (by omega)
      repeat (first | go_values | go_skip | go_guarded | go_step | go_upon)
      go_ret
      exact ⟨rfl, rfl⟩

end Go.Proofs.YtaofilinejanjaaDoor
