/-
  FalseLetters in the program.
-/
import Derived.Test.YtgbgnmjgnfocmaaDoorFalP19
import Derived.Test.YtgbgnmjgnfocmaaDoorCutF19
import Derived.Test.YtgbgnmjgnfocmaaDoorRunI18
import Derived.Deep.Strs
namespace Go.Proofs.YtgbgnmjgnfocmaaDoor
open Go.ChangeShapes Go.WideShapes Go.ChangeAt Go.RowKit

set_option maxRecDepth 100000
set_option linter.unusedVariables false

set_option maxHeartbeats 8000000 in
theorem ifalse (s : ByteArray) (w : World) (hT0 : Tabs w) (hs : s.size ≤ 1048576) :
    Calls Tryd.prog 5 #[.string s] w fun e w' => e = .returned (.tuple #[.string (falseA s).1, .bool (falseA s).2]) ∧ Kept w w' := by
  have HT : Hid (Tabs w) := hT0
  clear hT0
  by_cases h2 : 200 < s.size
  · rw [falseA_no (fun h => by have := h.1; omega)]
    go_enter Tryd.func5, Tryd.ntmps5
    go_wp2
    go_returns
    exact ⟨rfl, But.refl _ _ _⟩
  have hd2 : decide (200 < (s.size : Int)) = false := by simp; omega
  have HR : Hid (∀ W, Calls Tryd.prog 7 #[.string s] W fun e w' => ∃ v, e = .returned (.tuple #[v, .bool true]) ∧ NumO w' W.heap.size w'.heap.size v (runesF s s.size 0) ∧ Kept W w') := fun W => by
    have := iruns s W hs
    rw [runA_yes (by omega)] at this
    exact this
  have hrl : (runesF s s.size 0).length ≤ 400 := by have := runA_len s; rw [runA_yes (by omega)] at this; exact this
  have HOK : Hid (okT s ↔ (65533 : Int) ∉ runesF s s.size 0) := ⟨fun h => h.2, fun h => ⟨by omega, h⟩⟩
  generalize runesF s s.size 0 = R at *
  by_cases hm : (65533 : Int) ∈ R
  · rw [falseA_no (fun h => (HOK.out.1 h) hm)]
    have HD9 := dec_yes hm
    clear HOK hm
    go_enter Tryd.func5, Tryd.ntmps5
    repeat (first | go_values | go_skip | go_guarded | go_step | go_upon)
    go_at_call 7
    refine (HR.out _).mono ?_
    rintro e w1 ⟨v1, rfl, o1, k1⟩
    obtain ⟨a1, c1, hf, _⟩ := own_form o1.1
    subst hf
    have HC : Hid (Calls Tryd.prog 8 #[.slice a1 R.length c1, .int .i64 65533] w1 fun e w' => e = .returned (.bool (dec ((65533 : Int) ∈ R))) ∧ w' = w1) := icon R 65533 a1 c1 w1 o1.at (by omega)
    have HK : Hid (Kept w w1) := k1
    rw [HD9] at HC
    clear o1 k1 HR
    dsimp only
    repeat (first | (go_at_call 8; refine HC.out.mono ?_; rintro e w3 ⟨rfl, hw3⟩; rw [hw3]; clear hw3 w3; dsimp only) | go_values | go_skip | go_guarded | go_step | go_upon)
    go_returns
    exact ⟨rfl, HK.out⟩
  have hok : okT s := HOK.out.2 hm
  rw [falseA_yes hok]
  have HD9 := dec_no hm
  have HV : Hid (Lib.validD s.data.toList = true) := okT_valid hok
  have hfl : (fl s.data.toList).length ≤ 200 := by rw [fl_len _ _ (Nat.le_refl _), ← Lib.size_eq]; omega
  have hsl : s.data.toList.length ≤ 200 := by rw [← Lib.size_eq]; omega
  obtain ⟨X, hX⟩ : ∃ X, fl s.data.toList = X := ⟨_, rfl⟩
  have HX : Hid (fl s.data.toList = X) := hX
  rw [hX] at hfl ⊢
  have HXL : Hid (X.length ≤ 200 ∧ s.data.toList.length ≤ 200) := ⟨hfl, hsl⟩
  clear HOK hm hok hX hfl hsl
  go_enter Tryd.func5, Tryd.ntmps5
  repeat (first | go_values | go_skip | go_guarded | go_step | go_upon)
  go_at_call 7
  refine (HR.out _).mono ?_
  rintro e w1 ⟨v1, rfl, o1, k1⟩
  obtain ⟨a1, c1, hf, _⟩ := own_form o1.1
  subst hf
  have HC : Hid (Calls Tryd.prog 8 #[.slice a1 R.length c1, .int .i64 65533] w1 fun e w' => e = .returned (.bool (dec ((65533 : Int) ∈ R))) ∧ w' = w1) := icon R 65533 a1 c1 w1 o1.at (by omega)
  have HK : Hid (Kept w w1) := k1
  rw [HD9] at HC
  clear o1 k1 HR
  dsimp only
  repeat (first | (go_at_call 8; refine HC.out.mono ?_; rintro e w3 ⟨rfl, hw3⟩; rw [hw3]; clear hw3 w3; dsimp only) | go_values | go_skip | go_guarded | go_step | go_upon)
  clear HC
  go_loopw [6, 7] (fun tv rv wr => ∃ (pre rest : List UInt8), tv = .string ⟨(91 :: pre).toArray⟩ ∧ rv = .string ⟨rest.toArray⟩ ∧ Hid (pre ++ fl rest = X) ∧ Hid (Lib.validD rest = true) ∧ rest.length ≤ 200 ∧ Kept w wr) (fun tv rv _ => strLen rv)
  case atStart => exact ⟨[], s.data.toList, rfl, by simp, HX, HV, HXL.out.2, HK.out⟩
  case round =>
    obtain ⟨pre, rest, rfl, rfl, HP, HVr, hrl2, hkp⟩ := hrel
    have hrs : (⟨rest.toArray⟩ : ByteArray).size = rest.length := by rw [Lib.size_eq]
    have HTr : Hid (Tabs wr) := HT.out.kept hkp
    have HCF : Hid (Calls Tryd.prog 9 #[.string ⟨rest.toArray⟩] wr fun e w' => ∃ a b r q, e = .returned (.tuple #[.string ⟨a.toArray⟩, .string ⟨b.toArray⟩, .string ⟨r.toArray⟩, .bool q]) ∧ Kept wr w' ∧
      ((q = false ∧ fl rest = rotL rest) ∨ (q = true ∧ rest = a ++ 123 :: (b ++ 125 :: r) ∧ (123 : UInt8) ∉ a ∧ (125 : UInt8) ∉ b))) := icutf ⟨rest.toArray⟩ wr HTr.out (by rw [hrs]; omega)
    have HKr : Hid (Kept w wr) := hkp
    clear hkp HT
    repeat (first | go_values | go_skip | go_guarded | go_step | go_upon)
    go_at_call 9
    refine HCF.out.mono ?_
    rintro e w2 ⟨a, b, r, q, rfl, k2, hway⟩
    clear HCF
    dsimp only
    rcases hway with ⟨rfl, hfl⟩ | ⟨rfl, hre, ha, hb⟩
    · have HM : Hid (Calls Tryd.prog 10 #[.func (.func 11) #[] #[], .string ⟨rest.toArray⟩] w2 fun e w' => e = .returned (.string ⟨(rotL rest).toArray⟩) ∧ Kept w2 w') := imap ⟨rest.toArray⟩ w2 (HTr.out.kept k2) (by rw [hrs]; omega) HVr.out
      have hXe : 91 :: (pre ++ rotL rest) ++ [93] = 91 :: (X ++ [93]) := by rw [← HP.out, hfl]; simp
      have hl1 := congrArg List.length HP.out
      rw [List.length_append, hfl] at hl1
      have HL9 : Hid (pre.length + (rotL rest).length ≤ 200) := show _ ≤ _ from by have := HXL.out.1; omega
      have HXE : Hid (91 :: (pre ++ rotL rest) ++ [93] = 91 :: (X ++ [93])) := hXe
      have HK2 : Hid (Kept w w2) := HKr.out.trans k2
      generalize rotL rest = M at *
      clear hfl hXe hl1 k2
      have hlen := HL9.out
      have hbig1 : ¬ 9223372036854775807 < pre.length + 1 + M.length := by omega
      have hbig2 : ¬ 9223372036854775807 < pre.length + 1 + M.length + 1 := by omega
      repeat (first | (go_at_call 10; refine HM.out.mono ?_; rintro e w4 ⟨rfl, k4⟩; dsimp only) | go_values | go_skip | go_guarded | go_step | go_upon)
      go_returns
      refine ⟨?_, HK2.out.trans k4⟩
      rw [cat_data, cat_data]
      unfold outT
      rw [← HXE.out]
      simp
    · obtain ⟨hva, hvb⟩ := valid_split _ a _ 123 (Nat.le_refl _) (by decide) (by rw [← hre]; exact HVr.out)
      obtain ⟨_, hvr⟩ := valid_split _ b _ 125 (Nat.le_refl _) (by decide) hvb
      have hl0 := congrArg List.length hre
      simp only [List.length_append, List.length_cons] at hl0
      have hal : a.length ≤ 200 := by omega
      have has : (⟨a.toArray⟩ : ByteArray).size = a.length := by rw [Lib.size_eq]
      have HM : Hid (Calls Tryd.prog 10 #[.func (.func 11) #[] #[], .string ⟨a.toArray⟩] w2 fun e w' => e = .returned (.string ⟨(rotL a).toArray⟩) ∧ Kept w2 w') := imap ⟨a.toArray⟩ w2 (HTr.out.kept k2) (by rw [has]; omega) hva
      have HVr2 : Hid (Lib.validD r = true) := hvr
      have hPe : pre ++ (rotL a ++ 123 :: (b ++ [125])) ++ fl r = X := by rw [← HP.out, hre, fl_found ha hb]; simp
      have hl1 := congrArg List.length hPe
      simp only [List.length_append, List.length_cons, List.length_nil] at hl1
      have hl2 := HXL.out.1
      have HPE : Hid (pre ++ (rotL a ++ 123 :: (b ++ [125])) ++ fl r = X) := hPe
      have HK2 : Hid (Kept w w2) := HKr.out.trans k2
      have HRL : Hid (r.length < rest.length ∧ r.length ≤ 200) := ⟨by omega, by omega⟩
      generalize rotL a = M at *
      have hbig1 : ¬ 9223372036854775807 < M.length + 1 := by omega
      have hbig2 : ¬ 9223372036854775807 < M.length + 1 + b.length := by omega
      have hbig3 : ¬ 9223372036854775807 < M.length + 1 + b.length + 1 := by omega
      have hbig4 : ¬ 9223372036854775807 < pre.length + 1 + (M.length + 1 + b.length + 1) := by omega
      clear hPe hl1 hl2 k2 hre hva hvb hvr hl0 ha hb hal has
      repeat (first | (go_at_call 10; refine HM.out.mono ?_; rintro e w4 ⟨rfl, k4⟩; dsimp only) | go_values | go_skip | go_guarded | go_step | go_upon)
      refine ⟨⟨pre ++ (M ++ 123 :: (b ++ [125])), r, ?_, rfl, HPE, HVr2, HRL.out.2, HK2.out.trans k4⟩, ?_⟩
      · congr 1
        rw [cat_data, cat_data, cat_data, cat_data]
        simp
      · simp only [strLen]
        rw [Lib.size_eq, Lib.size_eq]
        exact HRL.out.1

end Go.Proofs.YtgbgnmjgnfocmaaDoor
