/-
  MissingIn in the specification.
-/
import Derived.Test.YtgbgnmjgnfocmaaSKeys19
import Derived.Test.YtgbgnmjgnfocmaaApp19
import Derived.Test.YtgbgnmjgnfocmaaMissP19
import Derived.Deep.CutBlock
namespace Go.Proofs.Ytgbgnmjgnfocmaa
open Go.ChangeShapes Go.WideShapes Go.ChangeAt Go.RowKit

set_option maxRecDepth 100000
set_option linter.unusedVariables false

set_option maxHeartbeats 8000000 in
theorem smiss (l m : List EntryD) (v v2 : Value) (w : World) (hv : EntriesAt w v l) (hv2 : EntriesAt w v2 m) (hl : entriesCost l ≤ 1048576) (hm : entriesCost m ≤ 1048576) :
    Calls Try.prog 5 #[v, v2] w fun e w' => ∃ v', e = .returned (.tuple #[v', .bool (dec (MissOk l m))]) ∧ TxtO w' w.heap.size w'.heap.size v' (missR l m) ∧ Kept w w' := by
  obtain ⟨ao, cap, hsl⟩ := hv.form
  subst hsl
  obtain ⟨ap, caq, hsl⟩ := hv2.form
  subst hsl
  obtain ⟨hn, hs⟩ := entries_each hl
  obtain ⟨hn2, hs2⟩ := entries_each hm
  have A1 : ∀ q, dec (KeysP 60 (keysOf l)) = q → ∀ W, Kept w W → Calls Try.prog 14 #[.slice ao l.length cap] W fun e w' => e = .returned (.bool q) ∧ Kept W w' := fun q hq W k => by rw [← hq]; exact skeys l _ W (hv.kept k) hn hs
  have A2 : ∀ q, dec (KeysP 60 (keysOf m)) = q → ∀ W, Kept w W → Calls Try.prog 14 #[.slice ap m.length caq] W fun e w' => e = .returned (.bool q) ∧ Kept W w' := fun q hq W k => by rw [← hq]; exact skeys m _ W (hv2.kept k) hn2 hs2
  have HV : Hid (EntriesAt w (.slice ao l.length cap) l) := hv
  have HV2 : Hid (EntriesAt w (.slice ap m.length caq) m) := hv2
  clear hv hv2 hl hm hs hs2
  cases q1 : dec (KeysP 60 (keysOf l)) with
  | false =>
    have B1 : Hid (∀ W, Kept w W → Calls Try.prog 14 #[.slice ao l.length cap] W fun e w' => e = .returned (.bool false) ∧ Kept W w') := A1 _ q1
    have no : ¬ MissOk l m := fun h => of_dec_no q1 h.1
    rw [dec_no no, missR_no no]
    clear A1 A2 no q1
    go_enter Try.func5, Try.ntmps5
    repeat (first | (go_at_call 14; refine (B1.out _ (But.refl _ _ _)).mono ?_; rintro e w3 ⟨rfl, k3⟩; dsimp only) | go_values | go_skip | go_guarded | go_step | go_upon)
    go_returns
    exact ⟨_, rfl, nil_txt _ _ _, k3⟩
  | true =>
  have B1 : Hid (∀ W, Kept w W → Calls Try.prog 14 #[.slice ao l.length cap] W fun e w' => e = .returned (.bool true) ∧ Kept W w') := A1 _ q1
  cases q2 : dec (KeysP 60 (keysOf m)) with
  | false =>
    have B2 : Hid (∀ W, Kept w W → Calls Try.prog 14 #[.slice ap m.length caq] W fun e w' => e = .returned (.bool false) ∧ Kept W w') := A2 _ q2
    have no : ¬ MissOk l m := fun h => of_dec_no q2 h.2
    rw [dec_no no, missR_no no]
    clear A1 A2 no q1 q2
    go_enter Try.func5, Try.ntmps5
    repeat (first | go_values | go_skip | go_guarded | go_step | go_upon)
    go_at_call 14; refine (B1.out _ (But.refl _ _ _)).mono ?_; rintro e w3 ⟨rfl, k3⟩; dsimp only
    repeat (first | go_values | go_skip | go_guarded | go_step | go_upon)
    go_at_call 14; refine (B2.out _ k3).mono ?_; rintro e w5 ⟨rfl, k5⟩; dsimp only
    repeat (first | go_values | go_skip | go_guarded | go_step | go_upon)
    go_returns
    exact ⟨_, rfl, nil_txt _ _ _, k3.trans k5⟩
  | true =>
  have B2 : Hid (∀ W, Kept w W → Calls Try.prog 14 #[.slice ap m.length caq] W fun e w' => e = .returned (.bool true) ∧ Kept W w') := A2 _ q2
  have yes : MissOk l m := ⟨of_dec q1, of_dec q2⟩
  have h60 : l.length ≤ 60 := by have := yes.1.1; rw [keysOf_len] at this; exact this
  rw [dec_yes yes, missR_yes yes]
  clear A1 A2 yes q1 q2
  go_enter Try.func5, Try.ntmps5
  repeat (first | go_values | go_skip | go_guarded | go_step | go_upon)
  go_at_call 14; refine (B1.out _ (But.refl _ _ _)).mono ?_; rintro e w3 ⟨rfl, k3⟩; dsimp only
  repeat (first | go_values | go_skip | go_guarded | go_step | go_upon)
  go_at_call 14; refine (B2.out _ k3).mono ?_; rintro e w5 ⟨rfl, k5⟩; dsimp only
  repeat (first | go_values | go_skip | go_guarded | go_step | go_upon)
  have HW : Hid (Kept w w5) := k3.trans k5
  have hw5 : w.heap.size ≤ w5.heap.size := HW.out.size
  clear B1 B2 k3 k5
  go_loopw [6, 22] (fun x i wr => ∃ (k : Nat), k ≤ l.length ∧ i = .int .i64 k ∧ TxtO wr w.heap.size wr.heap.size x (missA (l.take k) m) ∧ Kept w wr) (fun x i _ => l.length - (intOf i).toNat)
  case atStart => exact ⟨0, by omega, rfl, nil_txt _ _ _, HW.out⟩
  case round =>
    obtain ⟨k, hk, rfl, ho, hkp⟩ := hrel
    obtain ⟨ax, cx, hf, _⟩ := own_form ho.1
    subst hf
    have hkl : (missA (l.take k) m).length ≤ 60 := by have := miss_len (l.take k) m; rw [List.length_take] at this; omega
    by_cases hlt : k < l.length
    · obtain ⟨d, hd⟩ : ∃ p, l[k]? = some p := ⟨_, List.getElem?_eq_getElem hlt⟩
      obtain ⟨b, o, cap', s, ee, c0, c1, c2, hka⟩ := (HV.out.kept hkp).get hd
      cases ee
      have HT : Hid (missA (l.take (k + 1)) m = missA (l.take k) m ++ (if m.any (hasE d) then [] else [d.1])) := show _ = _ from by rw [take_snoc hd]; exact miss_snoc _ _ _
      generalize hM : missA (l.take k) m = M at *
      generalize hN : M.length = N at *
      have HN : Hid (M.length = N) := hN
      have HK : Hid (Kept w wr) := hkp
      have HO : Hid (TxtO wr w.heap.size wr.heap.size (.slice ax N cx) M) := ho
      obtain ⟨d0, d1, d2⟩ := d
      dsimp only at c0 c1 c2 hka HT
      obtain ⟨a3, p3, hsl⟩ := row_nil hka
      subst hsl
      have hsz := hkp.size
      clear hd hka hkp ho hM hN
      have L0 := Loc.new wr [.string d0, .slice a3 d1.length p3, .bool d2] 38
      have HL0 : Hid (Loc (wr.alloc (.cells #[.string d0, .slice a3 d1.length p3, .bool d2] 38)) wr.heap.size [.string d0, .slice a3 d1.length p3, .bool d2]) := L0
      clear L0
      have HV3 : Hid (EntriesAt (wr.alloc (.cells #[.string d0, .slice a3 d1.length p3, .bool d2] 38)) (.slice ap m.length caq) m) := HV2.out.kept (HK.out.alloc _)
      have hws : (wr.alloc (.cells #[.string d0, .slice a3 d1.length p3, .bool d2] 38)).heap.size = wr.heap.size + 1 := by simp
      have HWS : Hid ((wr.alloc (.cells #[.string d0, .slice a3 d1.length p3, .bool d2] 38)).heap.size = wr.heap.size + 1) := hws
      clear hws
      repeat (first | go_values | go_skip | go_guarded | go_step | go_upon)
      have HV4 : Hid (∃ W, W = wr.alloc (.cells #[.string d0, .slice a3 d1.length p3, .bool d2] 38) ∧ Kept w W ∧ Kept wr W) := ⟨_, rfl, HK.out.alloc _, (But.refl _ _ _).alloc _⟩
      clear c0 c1 c2
      refine forgetC (fun W => Loc W wr.heap.size [.string d0, .slice a3 d1.length p3, .bool d2] ∧ EntriesAt W (.slice ap m.length caq) m ∧ Kept w W ∧ Kept wr W ∧ W.heap.size = wr.heap.size + 1) ⟨HL0.out, HV3.out, HK.out.alloc _, (But.refl _ _ _).alloc _, HWS.out⟩ ?_
      clear HL0 HV3 HWS HV4
      rintro W ⟨hL, hV, hKW, hKr, hWs⟩
      have HL : Hid (Loc W wr.heap.size [.string d0, .slice a3 d1.length p3, .bool d2]) := hL
      have HV3 : Hid (EntriesAt W (.slice ap m.length caq) m) := hV
      have HKW : Hid (Kept w W ∧ Kept wr W ∧ W.heap.size = wr.heap.size + 1) := ⟨hKW, hKr, hWs⟩
      have HSZ : Hid (w.heap.size ≤ wr.heap.size) := hsz
      clear hL hV hKW hKr hWs hsz hw5
      go_loopw [9, 28] (fun fo i wz => ∃ (j : Nat), j ≤ m.length ∧ i = .int .i64 j ∧ fo = .bool ((m.take j).any (hasE (d0, d1, d2))) ∧ Kept W wz) (fun fo i _ => m.length - (intOf i).toNat)
      case atStart => exact ⟨0, by omega, rfl, by simp, But.refl _ _ _⟩
      case round =>
        rename World => wz
        obtain ⟨j, hj, rfl, rfl, hkz⟩ := hrel
        have L5 := HL.out.kept hkz
        have g0 := L5.cell 0 rfl
        have g1 := L5.cell 1 rfl
        have g2 := L5.cell 2 rfl
        have gl := L5.lt
        clear L5
        by_cases hlt2 : j < m.length
        · obtain ⟨y, hy⟩ : ∃ p, m[j]? = some p := ⟨_, List.getElem?_eq_getElem hlt2⟩
          obtain ⟨bz, oz, capz, sz, ez, x0, x1, x2, hkx⟩ := (HV3.out.kept hkz).get hy
          cases ez
          have HNX : Hid ((m.take (j + 1)).any (hasE (d0, d1, d2)) = ((m.take j).any (hasE (d0, d1, d2)) || hasE (d0, d1, d2) y)) := show _ = _ from by rw [take_snoc hy, List.any_append]; simp
          have HKZ : Hid (Kept W wz) := hkz
          obtain ⟨y0, y1, y2⟩ := y
          dsimp only at x0 x1 x2 hkx HNX
          obtain ⟨a7, p7, hsl⟩ := row_nil hkx
          subst hsl
          generalize (m.take j).any (hasE (d0, d1, d2)) = F at *
          clear hy hkx hkz
          cases F with
          | true =>
            repeat (first | go_values | go_skip | go_guarded | go_step | go_upon)
            exact ⟨⟨j + 1, hlt2, by go_num, by rw [HNX.out]; rfl, HKZ.out.alloc _⟩, by simp [intOf]; omega⟩
          | false =>
            by_cases q1 : y0 = d0
            · have e1 : (y0.toList == d0.toList) = true := by rw [q1]; simp
              have HQ : Hid (y0 = d0) := q1
              clear q1
              cases y2 <;> cases d2
              all_goals
                repeat (first | go_values | go_skip | go_guarded | go_step | go_upon)
                exact ⟨⟨j + 1, hlt2, by go_num, by rw [HNX.out]; simp [hasE, HQ.out], HKZ.out.alloc _⟩, by simp [intOf]; omega⟩
            · have e1 : (y0.toList == d0.toList) = false := by rw [beq_eq_false_iff_ne]; exact fun h => q1 (toList_inj h)
              have HQ : Hid (¬ y0 = d0) := q1
              clear q1
              repeat (first | go_values | go_skip | go_guarded | go_step | go_upon)
              exact ⟨⟨j + 1, hlt2, by go_num, by rw [HNX.out]; simp [hasE, HQ.out], HKZ.out.alloc _⟩, by simp [intOf]; omega⟩
        · have hje : j = m.length := by omega
          subst hje
          rw [List.take_length]
          have HKZ : Hid (Kept W wz) := hkz
          clear hkz
          cases q : m.any (hasE (d0, d1, d2)) with
          | true =>
            rw [q] at HT
            repeat (first | go_values | go_skip | go_guarded | go_step | go_upon)
            have K5 := HKW.out.2.1.trans HKZ.out
            exact ⟨⟨k + 1, hlt, by go_num, by rw [HT.out]; simpa using (HO.out.kept K5).mono (Nat.le_refl _) K5.size, HKW.out.1.trans HKZ.out⟩, by simp [intOf]; omega⟩
          | false =>
            rw [q] at HT
            repeat (first | (at_builtin; refine forgetL (fun w' => w' = _) rfl ?_) | go_values | go_skip | go_guarded | go_step | go_upon)
            intro W7 hW7
            rw [hW7]
            clear hW7 W7
            have K5 := HKW.out.2.1.trans HKZ.out
            have s5 := K5.size
            have s6 := HSZ.out
            refine app_txt rfl _ _ rfl (lo := w.heap.size) (hi := wr.heap.size) rfl (HO.out.kept (K5.alloc _)) rfl (one_txt (p := d0) (Loc.new _ [.string d0] 9)) rfl (by rw [HN.out]; simp; omega) (by simp; omega) ?_
            intro v2 w2 o2 b2
            have HO2 : Hid (TxtO w2 w.heap.size w2.heap.size v2 (M ++ [d0])) := o2
            have HK2 : Hid (Kept w w2) := But.onto ((HKW.out.1.trans HKZ.out).alloc _) b2 (Nat.le_refl _)
            clear o2 b2 K5
            repeat (first | go_values | go_skip | go_guarded | go_step | go_upon)
            exact ⟨⟨k + 1, hlt, by go_num, by rw [HT.out]; simpa using HO2.out, HK2.out⟩, by simp [intOf]; omega⟩
    · have hke : k = l.length := by omega
      subst hke
      rw [List.take_length] at ho hkl ⊢
      obtain ⟨M, hM⟩ : ∃ M, missA l m = M := ⟨_, rfl⟩
      have HM : Hid (missA l m = M) := hM
      rw [hM] at ho hkl ⊢
      clear hM
      generalize hN : M.length = N at *
      have HO : Hid (TxtO wr w.heap.size wr.heap.size (.slice ax N cx) M) := ho
      have HK : Hid (Kept w wr) := hkp
      clear ho hkp hN
      repeat (first | go_values | go_skip | go_guarded | go_step | go_upon)
      go_returns
      exact ⟨_, rfl, by rw [HM.out]; exact HO.out, HK.out⟩

end Go.Proofs.Ytgbgnmjgnfocmaa
