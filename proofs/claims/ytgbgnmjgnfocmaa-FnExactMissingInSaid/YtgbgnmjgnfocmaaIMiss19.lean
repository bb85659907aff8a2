/-
  MissingIn in the program.
-/
import Derived.Test.YtgbgnmjgnfocmaaIKeys19
import Derived.Test.YtgbgnmjgnfocmaaHas19
import Derived.Deep.CutBlock
namespace Go.Proofs.Ytgbgnmjgnfocmaa
open Go.ChangeShapes Go.WideShapes Go.ChangeAt Go.RowKit

set_option maxRecDepth 100000
set_option linter.unusedVariables false

set_option maxHeartbeats 8000000 in
theorem imiss (l m : List EntryD) (v v2 : Value) (w : World) (hv : EntriesAt w v l) (hv2 : EntriesAt w v2 m) (hl : entriesCost l ≤ 1048576) (hm : entriesCost m ≤ 1048576) :
    Calls Try.prog 7 #[v, v2] w fun e w' => ∃ v', e = .returned (.tuple #[v', .bool (dec (MissOk l m))]) ∧ TxtO w' w.heap.size w'.heap.size v' (missR l m) ∧ Kept w w' := by
  obtain ⟨ao, cap, hsl⟩ := hv.form
  subst hsl
  obtain ⟨ap, caq, hsl⟩ := hv2.form
  subst hsl
  obtain ⟨hn, hs⟩ := entries_each hl
  obtain ⟨hn2, hs2⟩ := entries_each hm
  have A1 : ∀ q, dec (KeysP 60 (keysOf l)) = q → ∀ W, Kept w W → Calls Try.prog 16 #[.slice ao l.length cap] W fun e w' => e = .returned (.bool q) ∧ Kept W w' := fun q hq W k => by rw [← hq]; exact ikeys l _ W (hv.kept k) hn hs
  have A2 : ∀ q, dec (KeysP 60 (keysOf m)) = q → ∀ W, Kept w W → Calls Try.prog 16 #[.slice ap m.length caq] W fun e w' => e = .returned (.bool q) ∧ Kept W w' := fun q hq W k => by rw [← hq]; exact ikeys m _ W (hv2.kept k) hn2 hs2
  have HV : Hid (EntriesAt w (.slice ao l.length cap) l) := hv
  have HV2 : Hid (EntriesAt w (.slice ap m.length caq) m) := hv2
  clear hv hv2 hl hm hs hs2
  cases q1 : dec (KeysP 60 (keysOf l)) with
  | false =>
    have B1 : Hid (∀ W, Kept w W → Calls Try.prog 16 #[.slice ao l.length cap] W fun e w' => e = .returned (.bool false) ∧ Kept W w') := A1 _ q1
    have no : ¬ MissOk l m := fun h => of_dec_no q1 h.1
    rw [dec_no no, missR_no no]
    clear A1 A2 no q1
    go_enter Try.func7, Try.ntmps7
    repeat (first | (go_at_call 16; refine (B1.out _ (But.refl _ _ _)).mono ?_; rintro e w3 ⟨rfl, k3⟩; dsimp only) | go_values | go_skip | go_guarded | go_step | go_upon)
    go_returns
    exact ⟨_, rfl, nil_txt _ _ _, k3⟩
  | true =>
  have B1 : Hid (∀ W, Kept w W → Calls Try.prog 16 #[.slice ao l.length cap] W fun e w' => e = .returned (.bool true) ∧ Kept W w') := A1 _ q1
  cases q2 : dec (KeysP 60 (keysOf m)) with
  | false =>
    have B2 : Hid (∀ W, Kept w W → Calls Try.prog 16 #[.slice ap m.length caq] W fun e w' => e = .returned (.bool false) ∧ Kept W w') := A2 _ q2
    have no : ¬ MissOk l m := fun h => of_dec_no q2 h.2
    rw [dec_no no, missR_no no]
    clear A1 A2 no q1 q2
    go_enter Try.func7, Try.ntmps7
    repeat (first | go_values | go_skip | go_guarded | go_step | go_upon)
    go_at_call 16; refine (B1.out _ (But.refl _ _ _)).mono ?_; rintro e w3 ⟨rfl, k3⟩; dsimp only
    repeat (first | go_values | go_skip | go_guarded | go_step | go_upon)
    go_at_call 16; refine (B2.out _ k3).mono ?_; rintro e w5 ⟨rfl, k5⟩; dsimp only
    repeat (first | go_values | go_skip | go_guarded | go_step | go_upon)
    go_returns
    exact ⟨_, rfl, nil_txt _ _ _, k3.trans k5⟩
  | true =>
  have B2 : Hid (∀ W, Kept w W → Calls Try.prog 16 #[.slice ap m.length caq] W fun e w' => e = .returned (.bool true) ∧ Kept W w') := A2 _ q2
  have yes : MissOk l m := ⟨of_dec q1, of_dec q2⟩
  have h60 : l.length ≤ 60 := by have := yes.1.1; rw [keysOf_len] at this; exact this
  rw [dec_yes yes, missR_yes yes]
  clear A1 A2 yes q1 q2
  go_enter Try.func7, Try.ntmps7
  repeat (first | go_values | go_skip | go_guarded | go_step | go_upon)
  go_at_call 16; refine (B1.out _ (But.refl _ _ _)).mono ?_; rintro e w3 ⟨rfl, k3⟩; dsimp only
  repeat (first | go_values | go_skip | go_guarded | go_step | go_upon)
  go_at_call 16; refine (B2.out _ k3).mono ?_; rintro e w5 ⟨rfl, k5⟩; dsimp only
  repeat (first | go_values | go_skip | go_guarded | go_step | go_upon)
  have HW : Hid (Kept w w5) := k3.trans k5
  have hw5 : w.heap.size ≤ w5.heap.size := HW.out.size
  clear B1 B2 k3 k5
  go_loopw [6, 20] (fun x i wr => ∃ (k : Nat), k ≤ l.length ∧ i = .int .i64 k ∧ TxtO wr w.heap.size wr.heap.size x (missA (l.take k) m) ∧ Kept w wr) (fun x i _ => l.length - (intOf i).toNat)
  case atStart => exact ⟨0, by omega, rfl, nil_txt _ _ _, HW.out⟩
  case round =>
    obtain ⟨k, hk, rfl, ho, hkp⟩ := hrel
    obtain ⟨ax, cx, hf, _⟩ := own_form ho.1
    subst hf
    have hkl : (missA (l.take k) m).length ≤ 60 := by have := miss_len (l.take k) m; rw [List.length_take] at this; omega
    by_cases hlt : k < l.length
    · obtain ⟨d, hd⟩ : ∃ p, l[k]? = some p := ⟨_, List.getElem?_eq_getElem hlt⟩
      obtain ⟨b, o, cap', s, ee, c0, c1, c2, hka⟩ := (HV.out.kept hkp).get hd
      cases ee
      have HT : Hid (missA (l.take (k + 1)) m = missA (l.take k) m ++ (if m.any (hasE d) then [] else [d.1])) := show _ = _ from by rw [take_snoc hd]; exact miss_snoc _ _ _
      generalize hM : missA (l.take k) m = M at *
      generalize hN : M.length = N at *
      have HN : Hid (M.length = N) := hN
      have HK : Hid (Kept w wr) := hkp
      have HO : Hid (TxtO wr w.heap.size wr.heap.size (.slice ax N cx) M) := ho
      obtain ⟨d0, d1, d2⟩ := d
      dsimp only at c0 c1 c2 hka HT
      obtain ⟨a3, p3, hsl⟩ := row_nil hka
      subst hsl
      have hsz := hkp.size
      clear hd hka hkp ho hM hN
      have L0 := Loc.new wr [.string d0, .slice a3 d1.length p3, .bool d2] 38
      have f0 := L0.cell 0 rfl
      have f2 := L0.cell 2 rfl
      have HA : Hid (Calls Try.prog 18 #[.slice ap m.length caq, .func (.func 17) #[] #[.pointer (some ⟨wr.heap.size, 0, none⟩)]] (wr.alloc (.cells #[.string d0, .slice a3 d1.length p3, .bool d2] 38)) fun e w' => e = .returned (.bool (m.any (hasE (d0, d1, d2)))) ∧ Kept (wr.alloc (.cells #[.string d0, .slice a3 d1.length p3, .bool d2] 38)) w') := ihas_any m (d0, d1, d2) wr.heap.size _ _ (HV2.out.kept (HK.out.alloc _)) hn2 f0 f2
      have HL0 : Hid (Loc (wr.alloc (.cells #[.string d0, .slice a3 d1.length p3, .bool d2] 38)) wr.heap.size [.string d0, .slice a3 d1.length p3, .bool d2]) := L0
      clear f0 f2 L0
      cases q : m.any (hasE (d0, d1, d2)) with
      | true =>
        rw [q] at HA HT
        repeat (first | (go_at_call 18; refine HA.out.mono ?_; rintro e w4 ⟨rfl, k4⟩; dsimp only) | go_values | go_skip | go_guarded | go_step | go_upon)
        have K4 := (HK.out.alloc _).trans k4
        have K5 := (((But.refl _ _ wr).alloc _).trans k4)
        exact ⟨⟨k + 1, hlt, by go_num, by rw [HT.out]; simpa using (HO.out.kept K5).mono (Nat.le_refl _) K5.size, K4⟩, by simp [intOf]; omega⟩
      | false =>
        rw [q] at HA HT
        repeat (first | (go_at_call 18; refine HA.out.mono ?_; rintro e w4 ⟨rfl, k4⟩; have L4 := HL0.out.kept k4; have f0 := L4.cell 0 rfl; dsimp only) | (at_builtin; refine forgetL (fun w' => w' = _) rfl ?_) | go_values | go_skip | go_guarded | go_step | go_upon)
        intro W7 hW7
        rw [hW7]
        clear hW7 W7
        have K4 := (HK.out.alloc _).trans k4
        have K5 := (((But.refl _ _ wr).alloc _).trans k4)
        have s4 := K4.size
        refine app_txt rfl _ _ rfl (lo := w.heap.size) (hi := wr.heap.size) rfl (HO.out.kept (K5.alloc _)) rfl (one_txt (p := d0) (Loc.new _ [.string d0] 9)) rfl (by rw [HN.out]; simp; omega) (by simp; omega) ?_
        intro v2 w2 o2 b2
        have HO2 : Hid (TxtO w2 w.heap.size w2.heap.size v2 (M ++ [d0])) := o2
        have HK2 : Hid (Kept w w2) := But.onto (K4.alloc _) b2 (Nat.le_refl _)
        clear o2 b2 HO HK K4 K5 L4 f0
        repeat (first | go_values | go_skip | go_guarded | go_step | go_upon)
        exact ⟨⟨k + 1, hlt, by go_num, by rw [HT.out]; simpa using HO2.out, HK2.out⟩, by simp [intOf]; omega⟩
    · have hke : k = l.length := by omega
      subst hke
      rw [List.take_length] at ho hkl ⊢
      obtain ⟨M, hM⟩ : ∃ M, missA l m = M := ⟨_, rfl⟩
      have HM : Hid (missA l m = M) := hM
      rw [hM] at ho hkl ⊢
      clear hM
      generalize hN : M.length = N at *
      have HO : Hid (TxtO wr w.heap.size wr.heap.size (.slice ax N cx) M) := ho
      have HK : Hid (Kept w wr) := hkp
      clear ho hkp hN
      repeat (first | go_values | go_skip | go_guarded | go_step | go_upon)
      go_returns
      exact ⟨_, rfl, by rw [HM.out]; exact HO.out, HK.out⟩

end Go.Proofs.Ytgbgnmjgnfocmaa
