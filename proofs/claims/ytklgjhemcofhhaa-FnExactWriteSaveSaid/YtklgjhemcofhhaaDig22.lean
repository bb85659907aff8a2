/-
  The digest of bytes, in the program and in its specification.
-/
import Derived.Test.YtklgjhemcofhhaaPure22
import Derived.Laws.BitsAllLaws
namespace Go.Proofs.Ytklgjhemcofhhaa
open Go.ChangeShapes Go.WideShapes Go.ChangeAt Go.RowKit

set_option maxRecDepth 100000
set_option linter.unusedVariables false
set_option linter.unusedSimpArgs false

set_option maxHeartbeats 4000000 in
theorem idigest (l : List BytD) (v : Value) (w : World) (hv : BytAt w v l) (hn : l.length ≤ 1048576) :
    Calls Try.prog 33 #[v] w fun e w' => e = .returned (.int .u32 (digN l : Int)) ∧ Kept w w' := by
  obtain ⟨ao, cap, hsl⟩ := row_nil hv
  subst hsl
  go_enter Try.func33, Try.ntmps33
  repeat (first | go_values | go_skip | go_guarded | go_step | go_upon)
  go_loopw [3, 8] (fun s i wr => ∃ (k N : Nat), k ≤ l.length ∧ i = .int .i64 k ∧ s = .int .u32 (N : Int) ∧ Hid (digN (l.take k) = N) ∧ N < 4294967296 ∧ Kept w wr) (fun s i _ => l.length - (intOf i).toNat)
  case atStart => exact ⟨0, 2166136261, by omega, rfl, rfl, rfl, by omega, But.refl _ _ _⟩
  case round =>
    obtain ⟨k, N, hk, rfl, rfl, HN, hN, hkp⟩ := hrel
    by_cases hlt : k < l.length
    · obtain ⟨d, hd⟩ : ∃ d, l[k]? = some d := ⟨_, List.getElem?_eq_getElem hlt⟩
      obtain ⟨b, o, cap1, e, c0⟩ := byt_get (hv.kept hkp) hd
      cases e
      have HTK : Hid (l.take (k + 1) = l.take k ++ [d]) := take_snoc hd
      have hb := d.toNat_lt
      have hxl : N ^^^ d.toNat < 4294967296 := Nat.xor_lt_two_pow (n := 32) hN (by omega)
      have hx : bits .xor .u32 (N : Int) (d.toNat : Int) = ((N ^^^ d.toNat : Nat) : Int) := u32_xor_nat N d.toNat (by omega) (by omega)
      have hc : IntKind.u32.wrap (d.toNat : Int) = (d.toNat : Int) := by rw [IntKind.wrap_u32]; omega
      have HSt : Hid (digStep N d = (N ^^^ d.toNat) * 16777619 % 4294967296) := by show _ = _; unfold digStep; rfl
      generalize N ^^^ d.toNat = X at *
      have hmm : (X : Int) * 16777619 = ((X * 16777619 : Nat) : Int) := by omega
      obtain ⟨Y, hY⟩ : ∃ Y, X * 16777619 % 4294967296 = Y := ⟨_, rfl⟩
      have hYl : Y < 4294967296 := by omega
      have HY : Hid (digStep N d = Y) := by show _ = _; rw [HSt.out, hY]
      have hm1 : IntKind.u32.wrap ((X : Int) * 16777619) = (Y : Int) := by rw [hmm, IntKind.wrap_u32]; omega
      have HMD : Hid ((X : Int) * 16777619 % 4294967296 = (Y : Int)) := by show _ = _; omega
      have HK : Hid (Kept w wr) := hkp
      clear hkp hv hd HSt hY hmm
      repeat (first | go_values | go_skip | go_guarded | go_step | go_upon)
      refine ⟨⟨k + 1, Y, hlt, by go_num, by first | rfl | rw [HMD.out], ?_, by omega, HK.out⟩, by simp [intOf]; omega⟩
      show _ = _
      rw [HTK.out, digN_snoc, HN.out, HY.out]
    · have hke : k = l.length := by omega
      subst hke
      have hm2 := HN.out
      rw [List.take_length] at hm2
      have HM : Hid (digN l = N) := hm2
      have hcv : IntKind.u32.wrap (N : Int) = (N : Int) := by rw [IntKind.wrap_u32]; omega
      clear hm2 HN
      repeat (first | go_values | go_skip | go_guarded | go_step | go_upon)
      go_ret
      exact ⟨by rw [HM.out]; rfl, hkp⟩

set_option maxHeartbeats 4000000 in
theorem sdigest (l : List BytD) (v : Value) (w : World) (hv : BytAt w v l) (hn : l.length ≤ 1048576) :
    Calls Try.prog 28 #[v] w fun e w' => e = .returned (.int .u32 (digN l : Int)) ∧ Kept w w' := by
  obtain ⟨ao, cap, hsl⟩ := row_nil hv
  subst hsl
  go_enter Try.func28, Try.ntmps28
  repeat (first | go_values | go_skip | go_guarded | go_step | go_upon)
  go_loopw [3, 8] (fun s i wr => ∃ (k N : Nat), k ≤ l.length ∧ i = .int .i64 k ∧ s = .int .u64 (N : Int) ∧ Hid (digN (l.take k) = N) ∧ N < 4294967296 ∧ Kept w wr) (fun s i _ => l.length - (intOf i).toNat)
  case atStart => exact ⟨0, 2166136261, by omega, rfl, rfl, rfl, by omega, But.refl _ _ _⟩
  case round =>
    obtain ⟨k, N, hk, rfl, rfl, HN, hN, hkp⟩ := hrel
    by_cases hlt : k < l.length
    · obtain ⟨d, hd⟩ : ∃ d, l[k]? = some d := ⟨_, List.getElem?_eq_getElem hlt⟩
      obtain ⟨b, o, cap1, e, c0⟩ := byt_get (hv.kept hkp) hd
      cases e
      have HTK : Hid (l.take (k + 1) = l.take k ++ [d]) := take_snoc hd
      have hb := d.toNat_lt
      have hxl : N ^^^ d.toNat < 4294967296 := Nat.xor_lt_two_pow (n := 32) hN (by omega)
      have hx : bits .xor .u64 (N : Int) (d.toNat : Int) = ((N ^^^ d.toNat : Nat) : Int) := u64_xor_nat N d.toNat (by omega) (by omega)
      have hc : IntKind.u64.wrap (d.toNat : Int) = (d.toNat : Int) := by rw [IntKind.wrap_u64]; omega
      have HSt : Hid (digStep N d = (N ^^^ d.toNat) * 16777619 % 4294967296) := by show _ = _; unfold digStep; rfl
      generalize N ^^^ d.toNat = X at *
      have hmm : (X : Int) * 16777619 = ((X * 16777619 : Nat) : Int) := by omega
      obtain ⟨Y, hY⟩ : ∃ Y, X * 16777619 % 4294967296 = Y := ⟨_, rfl⟩
      have hYl : Y < 4294967296 := by omega
      have HY : Hid (digStep N d = Y) := by show _ = _; rw [HSt.out, hY]
      have hm1 : IntKind.u64.wrap ((X : Int) * 16777619) = ((X * 16777619 : Nat) : Int) := by rw [hmm, IntKind.wrap_u64]; omega
      have hm2 : IntKind.u64.wrap ((((X * 16777619 : Nat) : Int)).tmod 4294967296) = (Y : Int) := by rw [IntKind.wrap_u64, Int.tmod_eq_emod_of_nonneg (by omega)]; omega
      have HMD : Hid ((X : Int) * 16777619 % 4294967296 = (Y : Int)) := by show _ = _; omega
      have HK : Hid (Kept w wr) := hkp
      clear hkp hv hd HSt hY hmm
      repeat (first | go_values | go_skip | go_guarded | go_step | go_upon)
      refine ⟨⟨k + 1, Y, hlt, by go_num, by first | rfl | rw [HMD.out], ?_, by omega, HK.out⟩, by simp [intOf]; omega⟩
      show _ = _
      rw [HTK.out, digN_snoc, HN.out, HY.out]
    · have hke : k = l.length := by omega
      subst hke
      have hm2 := HN.out
      rw [List.take_length] at hm2
      have HM : Hid (digN l = N) := hm2
      have hcv : IntKind.u32.wrap (N : Int) = (N : Int) := by rw [IntKind.wrap_u32]; omega
      clear hm2 HN
      repeat (first | go_values | go_skip | go_guarded | go_step | go_upon)
      go_ret
      exact ⟨by rw [HM.out]; rfl, hkp⟩

end Go.Proofs.Ytklgjhemcofhhaa
