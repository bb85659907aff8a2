/-
  The spectrum: the specification.
-/
import Derived.Test.YtghmnhohdbombaaISpec16
namespace Go.Proofs.Ytghmnhohdbombaa
open Go.ChangeShapes Go.WideShapes Go.ChangeAt Go.RowKit Ieee
set_option maxRecDepth 100000
set_option linter.unusedVariables false

set_option maxHeartbeats 16000000 in
theorem sspec (xs : List Nat) (R : List TnD × Bool) (hR : SpecRes xs R) (v : Value) (w : World) (hv : FltAt w v xs) (hx : ∀ p ∈ xs, p < 18446744073709551616) (hn : xs.length ≤ 1048576) :
    Calls Try.prog 22 #[v] w (SpAns R w) := by
  have HRES : Hid (SpecRes xs R) := hR
  clear hR
  obtain ⟨ao, cap, hsl⟩ := row_nil hv
  subst hsl
  have HV : Hid (FltAt w (.slice ao xs.length cap) xs) := hv
  clear hv
  by_cases h8 : xs.length ≠ 8
  · have d8 : ((xs.length : Int) != 8) = true := by simp; omega
    have HNO : Hid (¬SpecP xs) := fun h => h8 h.1
    go_enter Try.func22, Try.ntmps22
    repeat (first | go_values | go_skip | go_guarded | go_step | go_upon)
    go_returns
    rw [HRES.out.2 (HNO.out)]
    exact ⟨.slice none 0 0, rfl, TnO.nil, But.refl _ _ _⟩
  have h8 : xs.length = 8 := Decidable.not_not.1 h8
  have HV8 := HV.out
  rw [h8] at HV8 ⊢
  have HV : Hid (FltAt w (.slice ao 8 cap) xs) := HV8
  have H8 : Hid (xs.length = 8) := h8
  clear HV8 h8
  go_enter Try.func22, Try.ntmps22
  repeat (first | go_values | go_skip | go_guarded | go_step | go_upon)
  go_at_call 49
  refine (sgoodR xs _ _ HV.out hx hn).mono ?_
  rintro e u1 ⟨rfl, k1⟩
  have HK1 : Hid (Kept w u1) := k1
  clear k1
  cases hgr : goodR xs with
  | false =>
    have HNO : Hid (¬SpecP xs) := fun h => by have := h.2.1; rw [hgr] at this; cases this
    clear hgr
    dsimp only
    repeat (first | go_values | go_skip | go_guarded | go_step | go_upon)
    go_returns
    rw [HRES.out.2 (HNO.out)]
    exact ⟨.slice none 0 0, rfl, TnO.nil, HK1.out⟩
  | true =>
    have HGR : Hid (goodR xs = true) := hgr
    clear hgr
    dsimp only
    obtain ⟨i0, hi0, hz0, hz1, hz2⟩ := info_parts info_tn
    have s1 := HK1.out.size
    obtain ⟨B, hB⟩ : ∃ B, w.heap.size = B := ⟨_, rfl⟩
    rw [hB] at s1
    have HBe : Hid (w.heap.size = B) := hB
    clear hB
    repeat (first | go_values | go_skip | go_guarded | go_step | go_upon)
    go_loopw [4, 5] (fun x i wr => ∃ (k : Nat) (ao5 : Option Addr) (c5 : Nat), k ≤ 8 ∧ i = .int .i64 k ∧ x = .slice ao5 k c5 ∧ Hid (wr.ownsRow B 55 2 (.slice ao5 k c5) k ((specL xs k).flatMap tnC)) ∧ Hid (∀ j, j < k → (specK xs j).2.2 = true) ∧ Hid (Kept w wr) ∧ B ≤ wr.heap.size) (fun x i _ => 8 - (intOf i).toNat)
    case atStart => exact ⟨0, none, 0, by omega, rfl, rfl, (World.ownsRow_nil _ _ _ _ : World.ownsRow _ _ _ _ _ _ _), (fun j hj => by omega : ∀ j, j < 0 → (specK xs j).2.2 = true), HK1, s1⟩
    case round =>
      obtain ⟨k, ao5, c5, hk, rfl, rfl, HRow, HO, HKr, hBr⟩ := hrel
      by_cases hlt : k < 8
      · have d1 : decide ((k : Int) < 8) = true := by simp; omega
        have HNO : Hid ((specK xs k).2.2 = false → ¬SpecP xs) := fun h hp => by
          have := hp.2.2 k hlt
          rw [h] at this
          cases this
        obtain ⟨W0, hW0⟩ : ∃ W, wr = W := ⟨_, rfl⟩
        rw [hW0] at HRow HKr hBr ⊢
        clear hW0
        repeat (first | go_values | go_skip | go_guarded | go_step | go_upon)
        clear d1
        go_loopw [6, 7, 29] (fun s6 s7 i wr => ∃ (n re im : Nat), n ≤ 8 ∧ i = .int .i64 n ∧ s6 = .float .f64 re ∧ s7 = .float .f64 im ∧ Hid (nrm re = (accT xs k n).1 ∧ nrm im = (accT xs k n).2 ∧ re < 18446744073709551616 ∧ im < 18446744073709551616) ∧ Hid (Kept W0 wr)) (fun s6 s7 i _ => 8 - (intOf i).toNat)
        case atStart => exact ⟨0, 0, 0, by omega, rfl, rfl, rfl, (⟨rfl, rfl, by omega, by omega⟩ : _ ∧ _ ∧ _ ∧ _), But.refl _ _ _⟩
        case round =>
          obtain ⟨n, re, im, hnn, rfl, rfl, rfl, HR, HK0⟩ := hrel
          by_cases hlt2 : n < 8
          · obtain ⟨x, hxk⟩ : ∃ x, xs[n]? = some x := ⟨_, List.getElem?_eq_getElem (by rw [H8.out]; exact hlt2)⟩
            obtain ⟨b, o, cap', e, c0⟩ := flt_get (HV.out.kept (HKr.out.trans HK0.out)) hxk
            rw [H8.out] at e
            cases e
            have HX : Hid (xs[n]? = some x) := hxk
            clear hxk
            obtain ⟨hm, hJ⟩ := wrap_mul (k := k) (n := n) (by omega) (by omega)
            obtain ⟨J, hJe⟩ : ∃ J, k * n = J := ⟨_, rfl⟩
            rw [hJe] at hm hJ
            have HJ : Hid (k * n = J) := hJe
            have hm2 : (k : Int) * (n : Int) = (J : Int) := by rw [← hJe]; simp
            have d2 : decide ((n : Int) < 8) = true := by simp; omega
            have y1 : (0 : Int) ≤ (n : Int) := by omega
            have y2 : (n : Int) < 8 := by omega
            clear hJe
            repeat (first | go_values | go_skip | go_guarded | go_step | go_upon)
            go_at_call 53
            refine (sW J hJ _).mono ?_
            rintro e u6 ⟨rfl, k6⟩
            have HK0 : Hid (Kept W0 u6) := HK0.out.trans k6
            clear k6 c0
            obtain ⟨⟨wr9, wi9⟩, hw⟩ : ∃ q, wT J = q := ⟨_, rfl⟩
            have HW : Hid (wT J = (wr9, wi9)) := hw
            rw [hw]
            clear hw
            dsimp only
            repeat (first | go_values | go_skip | go_guarded | go_step | go_upon)
            refine ⟨⟨n + 1, _, _, hlt2, by go_num, rfl, rfl, ?_, (HK0.out.alloc _).drewN _⟩, by simp [intOf]; omega⟩
            show nrm _ = (accT xs k (n + 1)).1 ∧ nrm _ = (accT xs k (n + 1)).2 ∧ _ ∧ _
            refine ⟨?_, ?_, fop_lt _ _ _ _, fop_lt _ _ _ _⟩
            · simp only [nrm_fop, accT, stepT, HJ.out, HW.out, HR.out.1, List.getD_eq_getElem?_getD, HX.out, Option.getD_some]
            · simp only [nrm_fop, accT, stepT, HJ.out, HW.out, HR.out.2.1, List.getD_eq_getElem?_getD, HX.out, Option.getD_some]
          · have hke : n = 8 := by omega
            subst hke
            have hR8 := HR.out
            rw [← H8.out] at hR8
            have hsk : turnM re im = specK xs k := turnM_of hR8.1 hR8.2.1
            have HKr : Hid (Kept w wr) := HKr.out.trans HK0.out
            have HRow : Hid (wr.ownsRow B 55 2 (.slice ao5 k c5) k ((specL xs k).flatMap tnC)) := own_kept HRow.out HK0.out
            have s0 := HK0.out.size
            have lre := HR.out.2.2.1
            have lim := HR.out.2.2.2
            clear hR8 HR HK0
            repeat (first | go_values | go_skip | go_guarded | go_step | go_upon)
            go_at_call 54
            refine (l2Turn re im lre lim _).mono ?_
            rintro e u7 ⟨rfl, hu7⟩
            rw [hsk] at hu7 ⊢
            have k7 : Kept wr u7 := by rw [hu7]; exact (But.refl _ _ _).alloc _
            have HRow : Hid (u7.ownsRow B 55 2 (.slice ao5 k c5) k ((specL xs k).flatMap tnC)) := own_kept HRow.out k7
            have HKr : Hid (Kept w u7) := HKr.out.trans k7
            have s7 := k7.size
            clear hu7 hsk k7
            obtain ⟨⟨a9, b9, ok9⟩, hq⟩ : ∃ q, specK xs k = q := ⟨_, rfl⟩
            have HQ : Hid (specK xs k = (a9, b9, ok9)) := hq
            rw [hq]
            clear hq
            cases ok9 with
            | false =>
              have HNO2 : Hid (¬SpecP xs) := HNO.out (by rw [HQ.out])
              dsimp only
              repeat (first | go_values | go_skip | go_guarded | go_step | go_upon)
              go_returns
              rw [HRES.out.2 (HNO2.out)]
              exact ⟨.slice none 0 0, rfl, TnO.nil, by (repeat (first | with_reducible exact HKr.out | with_reducible apply But.drewN | with_reducible apply But.drew | with_reducible apply But.alloc | (with_reducible refine But.setNew ?_ (by simp; try omega) _)))⟩
            | true =>
              dsimp only
              repeat (first | (at_builtin; refine forgetL (fun w' => w' = _) rfl ?_) | go_values | go_skip | go_guarded | go_step | go_upon)
              intro W7 hW7
              have k7 : Kept u7 W7 := by rw [hW7]; exact ((But.refl _ _ _).alloc _).alloc _
              have N7 : Loc W7 (u7.heap.size + 1) [.float .f64 a9, .float .f64 b9] := by
                rw [hW7]
                have := Loc.new (u7.alloc (.cells #[.float .f64 a9, .float .f64 b9] 55)) [.float .f64 a9, .float .f64 b9] 55
                simpa using this
              have s8 := k7.size
              have hRow7 := own_kept HRow.out k7
              have HKr : Hid (Kept w W7) := HKr.out.trans k7
              clear hW7 k7 HRow
              refine wpList_append_own _ rfl _ _ 45 rfl B 55 i0 (.agg #[.float .f64 0, .float .f64 0]) 2 16 Try.underlying45 hi0 hz0 hz1 hz2 rfl (by decide) (.slice ao5 k c5) k ((specL xs k).flatMap tnC) rfl hRow7 ⟨u7.heap.size + 1, 0, none⟩ 1 1 [.float .f64 a9, .float .f64 b9] rfl rfl (news1 N7) (by simp [Value.oneCell']) (by unfold maxLen; omega) (by omega) (by omega) ?_
              intro v' W8 hown' hgrow _
              obtain ⟨ao6, c6', hf6, _⟩ := own_form hown'
              subst hf6
              have HKr : Hid (Kept w W8) := HKr.out.grown hgrow (fun x hx => by have := own_lt hRow7 hx; have := HBe.out; omega)
              have HRow : Hid (W8.ownsRow B 55 2 (.slice ao6 (k + 1) c6') (k + 1) ((specL xs (k + 1)).flatMap tnC)) := by
                have : W8.ownsRow B 55 2 (.slice ao6 (k + 1) c6') (k + 1) ((specL xs (k + 1)).flatMap tnC) := by
                  rw [specL_succ, HQ.out, List.flatMap_append]; exact hown'
                exact this
              have s9 := hgrow.size
              clear hown' hgrow hRow7 N7
              dsimp only
              repeat (first | go_values | go_skip | go_guarded | go_step | go_upon)
              refine ⟨⟨k + 1, ao6, c6', hlt, by go_num, rfl, HRow, ?_, HKr, by omega⟩, by simp [intOf]; omega⟩
              show ∀ j, j < k + 1 → (specK xs j).2.2 = true
              intro j hj
              by_cases e : j = k
              · subst e; rw [HQ.out]
              · exact HO.out j (by omega)
      · have hke : k = 8 := by omega
        subst hke
        have HP : Hid (SpecP xs) := ⟨H8.out, HGR.out, HO.out⟩
        repeat (first | go_values | go_skip | go_guarded | go_step | go_upon)
        go_returns
        rw [HRES.out.1 HP.out]
        exact ⟨_, rfl, by
          have h := RowO.top HRow.out
          unfold TnO
          rw [specL_len, HBe.out]
          exact h, HKr.out⟩

end Go.Proofs.Ytghmnhohdbombaa
