/-
  MoveLine of the specification.
-/
import Derived.Test.YthpjjpgahmkpdaaSPush10
import Derived.Test.YthpjjpgahmkpdaaMoveB10
namespace Go.Proofs.Ythpjjpgahmkpdaa
open Go.ChangeShapes Go.WideShapes Go.ChangeAt Go.RowKit

set_option maxRecDepth 100000
set_option linter.unusedVariables false
set_option linter.unusedSimpArgs false

set_option maxHeartbeats 8000000 in
theorem smove (ps : List BodyD) (t : Int) (v : Value) (w : World) (hv : BodyAt w v ps) (hn : ps.length ≤ 1048576) :
    Calls Try.prog 65 #[v, .int .i64 t] w (PushR (moveA ps t) w) := by
  obtain ⟨ao, cap, hsl⟩ := row_nil hv
  subst hsl
  by_cases h : LineP ps
  · have dl : decide (LineP ps) = true := decide_eq_true h
    by_cases ht : 0 ≤ t ∧ t ≤ 1000
    · have dr : decide (0 ≤ t ∧ t ≤ 1000) = true := decide_eq_true ht
      have hl20 := h.1
      obtain ⟨i0, hi0, hz0, hz1, hz2⟩ := info_parts infoBody
      have HL : Hid (LineP ps) := h
      have HV : Hid (BodyAt w (.slice ao ps.length cap) ps) := hv
      cases ao with
      | none =>
        have hp0 : ps = [] := by
          cases ps with
          | nil => rfl
          | cons p r =>
            obtain ⟨a, c, e, hc⟩ := hv
            obtain ⟨b, o, e2, _⟩ := hc 0 (.int .i64 p.1) (by simp [bodyC])
            rw [e2] at e
            cases e
        subst hp0
        go_enter Try.func65, Try.ntmps65
        repeat (first | (go_at_call 22; refine (sgoodline _ _ _ hv hn).mono ?_; rw [dl]; rintro e w1 ⟨rfl, k1⟩; have HK1 : Hid (Kept w w1) := k1; clear k1; dsimp only) | (go_at_call 77; refine (sIn _ _ _ _).mono ?_; rw [dr]; rintro e w9 ⟨rfl, hw9⟩; rw [hw9]; clear hw9; dsimp only) | go_values | go_skip | go_guarded | go_step | go_upon)
        obtain ⟨w2, hE2⟩ : ∃ z, w1.alloc (Obj.cells #[] 33) = z := ⟨_, rfl⟩
        (try rw [hE2])
        have HK2 : Hid (Kept w w2) := (show Kept w w2 by rw [← hE2]; exact HK1.out.alloc _)
        have HO2 : Hid (BodyO w2 w1.heap.size w2.heap.size (.slice (some ⟨w1.heap.size, 0, none⟩) 0 0) []) := (show BodyO w2 w1.heap.size w2.heap.size (.slice (some ⟨w1.heap.size, 0, none⟩) 0 0) [] by rw [← hE2]; exact RowO.top (own_new w1 33))
        clear hE2
        have hlo := HK1.out.size
        have hw2 := HK2.out.size
        obtain ⟨R, hRd⟩ : ∃ R, rightL (([] : List BodyD).map (want t)) = R := ⟨_, rfl⟩
        have HRD : Hid (rightL (([] : List BodyD).map (want t)) = R) := hRd
        have HRL : Hid (R.length = ([] : List BodyD).length) := (show R.length = ([] : List BodyD).length by rw [← hRd, rightL_len, List.length_map])
        have HFT : Hid (Fit (-2000000000) 2000000000 (([] : List BodyD).map (want t))) := fit_want HL.out ht
        clear hv h hRd
        go_loopw [24] (fun i wr => ∃ (k : Nat), k ≤ ([] : List BodyD).length ∧ i = .int .i64 (k : Int) ∧ BodyO wr w1.heap.size w2.heap.size (.slice (some ⟨w1.heap.size, 0, none⟩) 0 0) (mix R ([] : List BodyD) k) ∧ But w1.heap.size w2.heap.size w2 wr) (fun i _ => ([] : List BodyD).length - (intOf i).toNat)
        case atStart => exact ⟨0, by omega, rfl, by rw [mix_zero]; exact HO2.out, But.refl _ _ _⟩
        case round =>
          obtain ⟨k, hk, rfl, ho, hkp⟩ := hrel
          have HO : Hid (BodyO wr w1.heap.size w2.heap.size (.slice (some ⟨w1.heap.size, 0, none⟩) 0 0) (mix R ([] : List BodyD) k)) := ho
          have HK : Hid (But w1.heap.size w2.heap.size w2 wr) := hkp
          clear ho hkp HO2
          by_cases hlt : k < ([] : List BodyD).length
          · exact absurd hlt (by simp)
          · have hke : k = ([] : List BodyD).length := by omega
            have HO1 : Hid (BodyO wr w1.heap.size w2.heap.size (.slice (some ⟨w1.heap.size, 0, none⟩) 0 0) R) := (show BodyO wr w1.heap.size w2.heap.size (.slice (some ⟨w1.heap.size, 0, none⟩) 0 0) R by rw [← mix_all R ([] : List BodyD) k (by rw [HRL.out, hke]) hke.symm]; exact HO.out)
            have dk : decide ((k : Int) < (([] : List BodyD).length : Int)) = false := by first | (simp; done) | (simp; omega)
            clear HO
            repeat (first | go_values | go_skip | go_guarded | go_step | go_upon)
            have HMZ : Hid (∀ (i : Nat) (c : BodyD), R[i]? = some c → 0 ≤ c.2.2.1) := (show ∀ (i : Nat) (c : BodyD), R[i]? = some c → 0 ≤ c.2.2.1 by rw [← HRD.out]; exact right_mass (want_mass HL.out))
            have HLL : Hid (R.length = (leftL R).length) := (leftL_len R).symm
            have HFR : Hid (Fit (-2000000000) 2000040000 R) := (show Fit _ _ R by rw [← HRD.out]; exact fit_right HFT.out (by rw [List.length_map]; omega))
            have HFL : Hid (Fit (-2000040000) 2000040000 (leftL R)) := fit_left HFR.out (by rw [HRL.out]; omega)
            go_loopw [9] (fun i wr => ∃ z : Int, i = .int .i64 z ∧ ((∃ k : Nat, k + 1 ≤ ([] : List BodyD).length ∧ z = (k : Int) - 1 ∧ BodyO wr w1.heap.size w2.heap.size (.slice (some ⟨w1.heap.size, 0, none⟩) 0 0) (mix R (leftL R) k) ∧ But w1.heap.size w2.heap.size w2 wr) ∨ (([] : List BodyD).length = 0 ∧ z = -2 ∧ BodyO wr w1.heap.size w2.heap.size (.slice (some ⟨w1.heap.size, 0, none⟩) 0 0) (leftL R) ∧ But w1.heap.size w2.heap.size w2 wr))) (fun i _ => ((intOf i) + 2).toNat)
            case atStart =>
              refine ⟨_, rfl, ?_⟩
              refine Or.inr ⟨rfl, rfl, ?_, HK.out⟩
              have hRn : R = [] := List.eq_nil_of_length_eq_zero HRL.out
              have := HO1.out
              rw [hRn] at this ⊢
              exact this
            case round =>
              rename World => wr2
              obtain ⟨z, rfl, hz⟩ := hrel
              rcases hz with ⟨k, hk1, hzk, ho, hkp⟩ | ⟨h00, hz2, ho, hkp⟩
              · exact absurd hk1 (by simp)
              · clear h00
                have HOF : Hid (BodyO wr2 w1.heap.size w2.heap.size (.slice (some ⟨w1.heap.size, 0, none⟩) 0 0) (leftL R)) := ho
                have HK2z : Hid (But w1.heap.size w2.heap.size w2 wr2) := hkp
                clear ho hkp HO1 HK
                have dk2 : decide ((0 : Int) ≤ z) = false := by simp; omega
                have hln : (leftL R).length ≤ 1048576 := by rw [leftL_len, HRL.out]; simp
                have hat : BodyAt wr2 (.slice (some ⟨w1.heap.size, 0, none⟩) 0 0) (leftL R) := HOF.out.at
                have HSG : Hid (Calls Try.prog 22 #[(.slice (some ⟨w1.heap.size, 0, none⟩) 0 0)] wr2 fun e w' => e = .returned (.bool (decide (LineP (leftL R)))) ∧ Kept wr2 w') := sgoodline (leftL R) (.slice (some ⟨w1.heap.size, 0, none⟩) 0 0) wr2 hat hln
                clear hln hat
                repeat (first | go_values | go_skip | go_guarded | go_step | go_upon)
                go_at_call 22
                refine HSG.out.mono ?_
                clear HSG
                by_cases hgl : LineP (leftL R)
                · rw [decide_eq_true hgl]
                  rintro e w8 ⟨rfl, k8⟩
                  have HA : Hid (moveA ([] : List BodyD) t = some (leftL R)) := (show _ = _ by rw [moveA, HRD.out, if_pos ⟨HL.out, ht, hgl⟩])
                  have HK8 : Hid (But w1.heap.size w2.heap.size w2 w8) := HK2z.out.transK k8
                  have HO8 : Hid (BodyO w8 w1.heap.size w2.heap.size (.slice (some ⟨w1.heap.size, 0, none⟩) 0 0) (leftL R)) := HOF.out.kept k8
                  clear k8 hgl
                  dsimp only
                  repeat (first | go_values | go_skip | go_guarded | go_step | go_upon)
                  refine bodyPost_ret (v := .tuple #[(.slice (some ⟨w1.heap.size, 0, none⟩) 0 0), .bool true]) (by simp [results, Try.results65, go_sem]) rfl ?_
                  rw [HA.out]
                  exact ⟨_, rfl, HO8.out.mono hlo HK8.out.size, But.onto HK2.out HK8.out hlo⟩
                · rw [decide_eq_false hgl]
                  rintro e w8 ⟨rfl, k8⟩
                  have HA : Hid (moveA ([] : List BodyD) t = none) := (show _ = _ by rw [moveA, HRD.out, if_neg (fun hh => hgl hh.2.2)])
                  have HK8 : Hid (But w1.heap.size w2.heap.size w2 w8) := HK2z.out.transK k8
                  clear k8 hgl
                  dsimp only
                  repeat (first | go_values | go_skip | go_guarded | go_step | go_upon)
                  refine bodyPost_ret (v := .tuple #[.slice none 0 0, .bool false]) (by simp [results, Try.results65, go_sem]) rfl ?_
                  rw [HA.out]
                  exact pushR_none rfl (But.onto HK2.out HK8.out hlo)
      | some ad =>
        go_enter Try.func65, Try.ntmps65
        repeat (first
          | (go_at_call 22; refine (sgoodline _ _ _ hv hn).mono ?_; rw [dl]; rintro e w1 ⟨rfl, k1⟩; have HK1 : Hid (Kept w w1) := k1; clear k1; dsimp only)
          | (go_at_call 77; refine (sIn _ _ _ _).mono ?_; rw [dr]; rintro e w9 ⟨rfl, hw9⟩; rw [hw9]; clear hw9; dsimp only)
          | (at_builtin
             refine wpList_append_own _ rfl _ _ 23 rfl w1.heap.size 33 i0 (.agg #[.int .i64 0, .int .i64 0, .int .i64 0, .int .i64 0]) 4 32 Try.underlying23 hi0 hz0 hz1 hz2 rfl (by decide) _ _ _ rfl (own_new w1 33) ad ps.length cap (ps.flatMap bodyC) rfl (flat4 ps) (news_of ((HV.out.kept HK1.out).kept ((But.refl _ _ w1).alloc _))) (one_all ps) (by unfold maxLen; omega) (by omega) (by simp) ?_
             intro v' w2 hown' hgrow _
             rw [Nat.zero_add, List.nil_append] at hown'
             obtain ⟨ao5, cap5, hf5, _⟩ := own_form hown'
             subst hf5
             have HK2 : Hid (Kept w w2) := (HK1.out.alloc _).grown hgrow (by intro x hx; have := HK1.out.size; have h9 : w1.heap.size = x := Option.some.inj hx; omega)
             have HO2 : Hid (BodyO w2 w1.heap.size w2.heap.size (.slice ao5 ps.length cap5) ps) := (RowO.top hown')
             clear hgrow hown')
          | go_values | go_skip | go_guarded | go_step | go_upon)
        have hlo := HK1.out.size
        have hw2 := HK2.out.size
        obtain ⟨R, hRd⟩ : ∃ R, rightL (ps.map (want t)) = R := ⟨_, rfl⟩
        have HRD : Hid (rightL (ps.map (want t)) = R) := hRd
        have HRL : Hid (R.length = ps.length) := (show R.length = ps.length by rw [← hRd, rightL_len, List.length_map])
        have HFT : Hid (Fit (-2000000000) 2000000000 (ps.map (want t))) := fit_want HL.out ht
        clear hv h hRd
        go_loopw [24] (fun i wr => ∃ (k : Nat), k ≤ ps.length ∧ i = .int .i64 (k : Int) ∧ BodyO wr w1.heap.size w2.heap.size (.slice ao5 ps.length cap5) (mix R ps k) ∧ But w1.heap.size w2.heap.size w2 wr) (fun i _ => ps.length - (intOf i).toNat)
        case atStart => exact ⟨0, by omega, rfl, by rw [mix_zero]; exact HO2.out, But.refl _ _ _⟩
        case round =>
          obtain ⟨k, hk, rfl, ho, hkp⟩ := hrel
          have HO : Hid (BodyO wr w1.heap.size w2.heap.size (.slice ao5 ps.length cap5) (mix R ps k)) := ho
          have HK : Hid (But w1.heap.size w2.heap.size w2 wr) := hkp
          clear ho hkp HO2
          by_cases hlt : k < ps.length
          · obtain ⟨g, rfl, hg1, hg2, hx, hcap⟩ := row_formB' HO.out (by rw [mix_len _ _ _ HRL.out hk]; omega)
            obtain ⟨⟨x, p, m, r⟩, hb⟩ : ∃ z, ps[k]? = some z := ⟨_, List.getElem?_eq_getElem hlt⟩
            have hbp := HL.out.body hb
            have hmg : (mix R ps k)[k]? = some (x, p, m, r) := by rw [mix_get _ _ _ HRL.out hlt]; exact hb
            have hml : ps.length = (mix R ps k).length := (mix_len _ _ _ HRL.out hk).symm
            have HM : Hid (ps.length = (mix R ps k).length ∧ (mix R ps k)[k]? = some (x, p, m, r)) := ⟨hml, hmg⟩
            have hL1 : (ps.map (want t))[k]? = some (want t (x, p, m, r)) := by rw [List.getElem?_map, hb]; rfl
            obtain ⟨a0, a1, a2, a3, zf⟩ := HO.out.cells hmg
            dsimp only at a0 a1 a2 a3
            have hg := cell_lt a0
            obtain ⟨⟨x1, x2⟩, ⟨p1, p2⟩, ⟨m1, m2⟩, hpm, r1, r2⟩ := hbp
            dsimp only at x1 x2 p1 p2 m1 m2 hpm r1 r2
            by_cases hm : 0 < m
            · have hm0 : ¬ m = 0 := by omega
              have dm : decide (0 < m) = true := decide_eq_true hm
              have hw1 : want t (x, p, m, r) = (x + (p * t).tdiv m, p, m, r) := by unfold want; rw [if_neg hm0]
              have e1 := mulT (p := p) (t := t) ⟨p1, p2⟩ ht
              have e2 := tdiv_bd (m := m) e1
              have i1 : IntKind.i64.wrap (p * t) = p * t := IntWalk.i64_in _ (by omega)
              have i2 : IntKind.i64.wrap ((p * t).tdiv m) = (p * t).tdiv m := IntWalk.i64_in _ (by omega)
              have i3 : IntKind.i64.wrap (x + (p * t).tdiv m) = x + (p * t).tdiv m := IntWalk.i64_in _ (by omega)
              have hmz : (m == 0) = false := by simpa using hm0
              rw [hw1] at hL1
              have HWB : Hid (-2000000000 ≤ x + (p * t).tdiv m ∧ x + (p * t).tdiv m ≤ 2000000000) := ⟨by omega, by omega⟩
              have HL1 : Hid ((ps.map (want t))[k]? = some (x + (p * t).tdiv m, p, m, r)) := hL1
              clear hw1 hL1 hmg hml hb hpm zf hx hm0
              repeat (go_not_at_region 8; first | go_values | go_skip | go_guarded | go_step | go_upon)
              refine wp_region_ksq 19 3 (by kernel_rfl) (by kernel_rfl) (by kernel_rfl) (by decide) ?_
              simp only [List.take_succ_cons, List.take_zero, List.drop_succ_cons, List.drop_zero]
              have hcc := @KW.cell_eq
              repeat (go_big_quiet_step (first | fail))
              refine wpQuiet_nil ?_
              rintro w5 ⟨⟨w6, k5⟩, h5⟩
              change w5 = w6 at h5
              subst h5
              clear hcc
              have O5 := HO.out.kept k5
              have HK5 : Hid (But w1.heap.size w2.heap.size w2 w5) := HK.out.transK k5
              obtain ⟨b0, b1, b2, b3, zf⟩ := O5.cells HM.out.2
              have zf0 := zf (k * 4)
              dsimp only at b0 b1 b2 b3
              generalize x + (p * t).tdiv m = X at *
              have HO6 : Hid (BodyO (w5.setCell ⟨g, k * 4, none⟩ (.int .i64 X)) w1.heap.size w2.heap.size (.slice (some ⟨g, 0, none⟩) ps.length cap5) ((mix R ps k).set k (X, p, m, r))) := O5.set0 HM.out.1 HM.out.2 X
              have HB6 : Hid (But w1.heap.size w2.heap.size w2 (w5.setCell ⟨g, k * 4, none⟩ (.int .i64 X))) := HK5.out.trans ((But.refl _ _ _).setCell (by simpa using hg1) (by simpa using hg2) _)
              clear O5 k5 zf a0 a1 a2 a3
              by_cases h0 : 0 < k
              · have d0 : decide (0 < k) = true := decide_eq_true h0
                obtain ⟨j, hj⟩ : ∃ j, k = j + 1 := ⟨k - 1, by omega⟩
                obtain ⟨⟨y, q, l, s⟩, hc⟩ : ∃ z, R[j]? = some z := ⟨_, List.getElem?_eq_getElem (by rw [HRL.out]; omega)⟩
                have hcb := rightL_bd HFT.out j _ (by rw [HRD.out]; exact hc)
                dsimp only at hcb
                have hRk : R[k]? = some (offL (y, q, l, s) (X, p, m, r)) := by
                  rw [← HRD.out, hj]
                  exact rightL_get (by rw [← hj]; exact HL1.out) (by rw [HRD.out]; exact hc)
                have hoff : offL (y, q, l, s) (X, p, m, r) = (max X (y + s + r), p, m, r) := by unfold offL; rw [if_neg (by dsimp only; omega)]
                rw [hoff] at hRk
                have hj6 : ((mix R ps k).set k (X, p, m, r))[j]? = some (y, q, l, s) := by
                  rw [List.getElem?_set_ne (by omega), mix_lo _ _ (by omega) (by rw [HRL.out]; omega)]
                  exact hc
                have hk6 : ((mix R ps k).set k (X, p, m, r))[k]? = some (X, p, m, r) := List.getElem?_set_self (by have := HM.out.1; omega)
                obtain ⟨c0, c1, c2, c3, zf⟩ := HO6.out.cells hj6
                obtain ⟨f0, f1, f2, f3, zg⟩ := HO6.out.cells hk6
                have zg0 := zg (k * 4)
                dsimp only at c0 c1 c2 c3 f0 f1 f2 f3
                have hL7 : ps.length = ((mix R ps k).set k (X, p, m, r)).length := by rw [List.length_set]; exact HM.out.1
                have HK6 : Hid (ps.length = ((mix R ps k).set k (X, p, m, r)).length ∧ ((mix R ps k).set k (X, p, m, r))[k]? = some (X, p, m, r)) := ⟨hL7, hk6⟩
                have HST : Hid (mix R ps (k + 1) = (mix R ps k).set k (max X (y + s + r), p, m, r)) := (mix_set _ _ k _ HRL.out hRk).symm
                have ej : IntKind.i64.wrap ((k : Int) - 1) = (j : Int) := by rw [IntWalk.i64_in _ (by omega)]; omega
                have zj1 : (0 : Int) ≤ (j : Int) := by omega
                have zj2 : (j : Int) < (ps.length : Int) := by omega
                have s1 : IntKind.i64.wrap (y + s) = y + s := IntWalk.i64_in _ (by omega)
                have s2 : IntKind.i64.wrap (y + s + r) = y + s + r := IntWalk.i64_in _ (by have := HWB.out; omega)
                have HJ : Hid (k = j + 1) := hj
                have hg6 := cell_lt c0
                obtain ⟨W6, hW6⟩ : ∃ W, w5.setCell ⟨g, k * 4, none⟩ (.int .i64 X) = W := ⟨_, rfl⟩
                rw [hW6] at c0 c1 c2 c3 f0 f1 f2 f3 zg0 HO6 HB6 hg6
                have HW6 : Hid (w5.setCell ⟨g, k * 4, none⟩ (.int .i64 X) = W6) := hW6
                clear hW6
                clear hRk hoff hj6 hk6 hL7 hj hc zf zg h0
                repeat (go_not_at_region 10; first | go_values | go_skip | go_guarded | go_step | go_upon)
                rw [HW6.out]
                clear HW6
                refine wp_region_kept (by kernel_rfl) (by kernel_rfl) ?_
                have hcc := @KW.cell_eq
                repeat (go_big_quiet_step (first | fail))
                refine wpQuiet_nil ?_
                rintro w7 ⟨⟨w8, k7⟩, h7⟩
                change w7 = w8 at h7
                subst h7
                clear hcc d0
                have f0 := Kept.cell k7 f0
                have O7 := HO6.out.kept k7
                obtain ⟨h0', h1', h2', h3', zg⟩ := O7.cells HK6.out.2
                have zg0 := zg (k * 4)
                have HO7 : Hid (BodyO w7 w1.heap.size w2.heap.size (.slice (some ⟨g, 0, none⟩) ps.length cap5) ((mix R ps k).set k (X, p, m, r))) := O7
                have HB7 : Hid (But w1.heap.size w2.heap.size w2 w7) := HB6.out.transK k7
                clear k7 O7 zg h0' h1' h2' h3' c0 c1 c2 c3 f1 f2 f3 b0 b1 b2 b3
                by_cases hlt' : X < y + s + r
                · have dx : decide (X < y + s + r) = true := decide_eq_true hlt'
                  have hmx : max X (y + s + r) = y + s + r := by omega
                  rw [hmx] at HST
                  clear hlt' hmx
                  repeat (first | go_values | go_skip | go_guarded | go_step | go_upon)
                  refine ⟨⟨k + 1, hlt, by go_num, ?_, HB7.out.trans ((But.refl _ _ _).setCell (by simpa using hg1) (by simpa using hg2) _)⟩, by simp [intOf]; omega⟩
                  rw [HST.out]
                  have := HO7.out.set0 HK6.out.1 HK6.out.2 (y + s + r)
                  rw [List.set_set] at this
                  exact this
                · have dx : decide (X < y + s + r) = false := decide_eq_false hlt'
                  have hmx : max X (y + s + r) = X := by omega
                  rw [hmx] at HST
                  clear hlt' hmx
                  repeat (first | go_values | go_skip | go_guarded | go_step | go_upon)
                  exact ⟨⟨k + 1, hlt, by go_num, by rw [HST.out]; exact HO7.out, HB7.out⟩, by simp [intOf]; omega⟩
              · have d0 : decide (0 < k) = false := decide_eq_false h0
                have hk0 : k = 0 := by omega
                have hRk : R[k]? = some (X, p, m, r) := by rw [← HRD.out, hk0, rightL_zero, ← hk0]; exact HL1.out
                have HST : Hid (mix R ps (k + 1) = (mix R ps k).set k (X, p, m, r)) := (mix_set _ _ k _ HRL.out hRk).symm
                clear hRk hk0 h0
                repeat (first | go_values | go_skip | go_guarded | go_step | go_upon)
                clear d0
                exact ⟨⟨k + 1, hlt, by go_num, by rw [HST.out]; exact HO6.out, HB6.out⟩, by simp [intOf]; omega⟩
            · have hm0 : m = 0 := by omega
              have dm : decide (0 < m) = false := decide_eq_false hm
              have hw1 : want t (x, p, m, r) = (x, p, m, r) := by unfold want; rw [if_pos hm0]
              rw [hw1] at hL1
              have hRk : R[k]? = some (x, p, m, r) := by
                rw [← HRD.out]
                by_cases h0 : k = 0
                · rw [h0, rightL_zero, ← h0]; exact hL1
                · obtain ⟨j, hj⟩ : ∃ j, k = j + 1 := ⟨k - 1, by omega⟩
                  obtain ⟨c, hc⟩ : ∃ z, R[j]? = some z := ⟨_, List.getElem?_eq_getElem (by rw [HRL.out]; omega)⟩
                  rw [hj]
                  rw [rightL_get (by rw [← hj]; exact hL1) (by rw [HRD.out]; exact hc)]
                  unfold offL
                  rw [if_pos hm0]
              have HST : Hid (mix R ps (k + 1) = mix R ps k) := (mix_set _ _ k _ HRL.out hRk).symm.trans (set_same hmg)
              clear hRk hw1 hL1 hm0 hmg hml hb
              repeat (first | go_values | go_skip | go_guarded | go_step | go_upon)
              exact ⟨⟨k + 1, hlt, by go_num, by rw [HST.out]; exact HO.out, HK.out⟩, by simp [intOf]; omega⟩
          · have hke : k = ps.length := by omega
            have HO1 : Hid (BodyO wr w1.heap.size w2.heap.size (.slice ao5 ps.length cap5) R) := (show BodyO wr w1.heap.size w2.heap.size (.slice ao5 ps.length cap5) R by rw [← mix_all R ps k (by rw [HRL.out, hke]) hke.symm]; exact HO.out)
            have dk : decide ((k : Int) < (ps.length : Int)) = false := by first | (simp; done) | (simp; omega)
            clear HO
            repeat (first | go_values | go_skip | go_guarded | go_step | go_upon)
            have HMZ : Hid (∀ (i : Nat) (c : BodyD), R[i]? = some c → 0 ≤ c.2.2.1) := (show ∀ (i : Nat) (c : BodyD), R[i]? = some c → 0 ≤ c.2.2.1 by rw [← HRD.out]; exact right_mass (want_mass HL.out))
            have HLL : Hid (R.length = (leftL R).length) := (leftL_len R).symm
            have HFR : Hid (Fit (-2000000000) 2000040000 R) := (show Fit _ _ R by rw [← HRD.out]; exact fit_right HFT.out (by rw [List.length_map]; omega))
            have HFL : Hid (Fit (-2000040000) 2000040000 (leftL R)) := fit_left HFR.out (by rw [HRL.out]; omega)
            go_loopw [9] (fun i wr => ∃ z : Int, i = .int .i64 z ∧ ((∃ k : Nat, k + 1 ≤ ps.length ∧ z = (k : Int) - 1 ∧ BodyO wr w1.heap.size w2.heap.size (.slice ao5 ps.length cap5) (mix R (leftL R) k) ∧ But w1.heap.size w2.heap.size w2 wr) ∨ (ps.length = 0 ∧ z = -2 ∧ BodyO wr w1.heap.size w2.heap.size (.slice ao5 ps.length cap5) (leftL R) ∧ But w1.heap.size w2.heap.size w2 wr))) (fun i _ => ((intOf i) + 2).toNat)
            case atStart =>
              refine ⟨_, rfl, ?_⟩
              by_cases h00 : ps.length = 0
              · have hRn : R = [] := List.eq_nil_of_length_eq_zero (by rw [HRL.out, h00])
                right
                refine ⟨h00, by simp [h00], ?_, HK.out⟩
                have := HO1.out
                rw [hRn] at this ⊢
                exact this
              · left
                obtain ⟨j, hj⟩ : ∃ j, ps.length = j + 1 := ⟨ps.length - 1, by omega⟩
                refine ⟨j, by omega, by omega, ?_, HK.out⟩
                obtain ⟨c, hc⟩ : ∃ z, R[j]? = some z := ⟨_, List.getElem?_eq_getElem (by rw [HRL.out]; omega)⟩
                have hlc : (leftL R)[j]? = some c := by rw [leftL_last (by rw [HRL.out]; omega)]; exact hc
                rw [← mix_down R (leftL R) j c HLL.out hlc, mix_all _ _ _ (by rw [HRL.out, hj]) (by rw [leftL_len, HRL.out, hj]), set_same hc]
                exact HO1.out
            case round =>
              rename World => wr2
              obtain ⟨z, rfl, hz⟩ := hrel
              rcases hz with ⟨k, hk1, hzk, ho, hkp⟩ | ⟨h00, hz2, ho, hkp⟩
              · have HOz : Hid (BodyO wr2 w1.heap.size w2.heap.size (.slice ao5 ps.length cap5) (mix R (leftL R) k)) := ho
                have HKz : Hid (But w1.heap.size w2.heap.size w2 wr2) := hkp
                clear ho hkp HO1 HK
                by_cases hk0 : 0 < k
                · obtain ⟨g, rfl, hg1, hg2, hx, hcap⟩ := row_formB' HOz.out (by rw [mix_len _ _ _ HLL.out (by rw [leftL_len, HRL.out]; omega), leftL_len, HRL.out]; omega)
                  obtain ⟨j, hj⟩ : ∃ j, k = j + 1 := ⟨k - 1, by omega⟩
                  obtain ⟨⟨x, p, m, r⟩, hb⟩ : ∃ z, R[j]? = some z := ⟨_, List.getElem?_eq_getElem (by rw [HRL.out]; omega)⟩
                  obtain ⟨⟨y, q, l, s⟩, hc⟩ : ∃ z, (leftL R)[k]? = some z := ⟨_, List.getElem?_eq_getElem (by rw [leftL_len, HRL.out]; omega)⟩
                  have hbb := HFR.out j _ hb
                  have hm0 := HMZ.out j _ hb
                  have hcb := HFL.out k _ hc
                  dsimp only at hbb hcb hm0
                  have hmb : (mix R (leftL R) k)[j]? = some (x, p, m, r) := by rw [mix_lo _ _ (by omega) (by rw [HRL.out]; omega)]; exact hb
                  have hmc : (mix R (leftL R) k)[k]? = some (y, q, l, s) := by rw [mix_hi _ _ (Nat.le_refl _) HLL.out (by rw [HRL.out]; omega)]; exact hc
                  have hml : ps.length = (mix R (leftL R) k).length := by rw [mix_len _ _ _ HLL.out (by rw [leftL_len, HRL.out]; omega), leftL_len, HRL.out]
                  obtain ⟨a0, a1, a2, a3, zf⟩ := HOz.out.cells hmb
                  obtain ⟨b0, b1, b2, b3, _⟩ := HOz.out.cells hmc
                  dsimp only at a0 a1 a2 a3 b0 b1 b2 b3
                  have HLj : Hid ((leftL R)[j]? = some (offR (y, q, l, s) (x, p, m, r))) := leftL_get hb (by rw [← hj]; exact hc)
                  have HM : Hid (ps.length = (mix R (leftL R) k).length ∧ (mix R (leftL R) k)[j]? = some (x, p, m, r)) := ⟨hml, hmb⟩
                  have HDN : Hid (mix R (leftL R) j = (mix R (leftL R) k).set j (offR (y, q, l, s) (x, p, m, r))) := (show _ = _ by rw [hj]; exact (mix_down R (leftL R) j _ HLL.out HLj.out).symm)
                  have hg := cell_lt a0
                  have ez : z = (j : Int) := by omega
                  subst ez
                  have dz : decide ((0 : Int) ≤ (j : Int)) = true := by simp
                  have ek : IntKind.i64.wrap ((j : Int) + 1) = (k : Int) := by rw [IntWalk.i64_in _ (by omega)]; omega
                  have zk1 : (0 : Int) ≤ (k : Int) := by omega
                  have zk2 : (k : Int) < (ps.length : Int) := by omega
                  have zj2 : (j : Int) < (ps.length : Int) := by omega
                  have s1 : IntKind.i64.wrap (y - s) = y - s := IntWalk.i64_in _ (by omega)
                  have s2 : IntKind.i64.wrap (y - s - r) = y - s - r := IntWalk.i64_in _ (by omega)
                  have s3 : IntKind.i64.wrap ((j : Int) - 1) = (j : Int) - 1 := IntWalk.i64_in _ (by omega)
                  have HJ : Hid (k = j + 1) := hj
                  clear hb hc hmb hmc hml zf hx hj hzk
                  repeat (go_not_at_region 17; first | go_values | go_skip | go_guarded | go_step | go_upon)
                  refine wp_region_kept (by kernel_rfl) (by kernel_rfl) ?_
                  have hcc := @KW.cell_eq
                  repeat (go_big_quiet_step (first | fail))
                  refine wpQuiet_nil ?_
                  rintro w7 ⟨⟨w9, k7⟩, h7⟩
                  change w7 = w9 at h7
                  subst h7
                  clear hcc
                  have O7 := HOz.out.kept k7
                  obtain ⟨c0, c1, c2, c3, zg⟩ := O7.cells HM.out.2
                  have zg0 := zg (j * 4)
                  dsimp only at c0 c1 c2 c3
                  have HO7 : Hid (BodyO w7 w1.heap.size w2.heap.size (.slice (some ⟨g, 0, none⟩) ps.length cap5) (mix R (leftL R) k)) := O7
                  have HB7 : Hid (But w1.heap.size w2.heap.size w2 w7) := HKz.out.transK k7
                  clear k7 O7 zg a0 a1 a2 a3 b0 b1 b2 b3
                  by_cases hm : 0 < m
                  · have dm : decide (0 < m) = true := decide_eq_true hm
                    have hof : offR (y, q, l, s) (x, p, m, r) = (min x (y - s - r), p, m, r) := by unfold offR; rw [if_neg (by dsimp only; omega)]
                    rw [hof] at HDN
                    by_cases hgt : y - s - r < x
                    · have dx : decide (y - s - r < x) = true := decide_eq_true hgt
                      rw [show min x (y - s - r) = y - s - r by omega] at HDN
                      clear hof hgt hm
                      repeat (first | go_values | go_skip | go_guarded | go_step | go_upon)
                      refine ⟨⟨_, rfl, Or.inl ⟨j, by have := HJ.out; omega, rfl, ?_, HB7.out.trans ((But.refl _ _ _).setCell (by simpa using hg1) (by simpa using hg2) _)⟩⟩, by have := HJ.out; simp [intOf]; omega⟩
                      rw [HDN.out]
                      exact HO7.out.set0 HM.out.1 HM.out.2 (y - s - r)
                    · have dx : decide (y - s - r < x) = false := decide_eq_false hgt
                      rw [show min x (y - s - r) = x by omega] at HDN
                      clear hof hgt hm
                      repeat (first | go_values | go_skip | go_guarded | go_step | go_upon)
                      refine ⟨⟨_, rfl, Or.inl ⟨j, by have := HJ.out; omega, rfl, ?_, HB7.out⟩⟩, by have := HJ.out; simp [intOf]; omega⟩
                      rw [HDN.out, set_same HM.out.2]
                      exact HO7.out
                  · have dm : decide (0 < m) = false := decide_eq_false hm
                    have hof : offR (y, q, l, s) (x, p, m, r) = (x, p, m, r) := by
                      unfold offR
                      rw [if_pos (by dsimp only; omega)]
                    rw [hof] at HDN
                    clear hof hm
                    repeat (first | go_values | go_skip | go_guarded | go_step | go_upon)
                    refine ⟨⟨_, rfl, Or.inl ⟨j, by have := HJ.out; omega, rfl, ?_, HB7.out⟩⟩, by have := HJ.out; simp [intOf]; omega⟩
                    rw [HDN.out, set_same HM.out.2]
                    exact HO7.out
                · have hke0 : k = 0 := by omega
                  have HOF : Hid (BodyO wr2 w1.heap.size w2.heap.size (.slice ao5 ps.length cap5) (leftL R)) := (show BodyO wr2 w1.heap.size w2.heap.size (.slice ao5 ps.length cap5) (leftL R) by rw [← mix_zero R (leftL R), ← hke0]; exact HOz.out)
                  have HK2z : Hid (But w1.heap.size w2.heap.size w2 wr2) := HKz.out
                  clear HOz HKz
                  have dk2 : decide ((0 : Int) ≤ z) = false := by simp; omega
                  have hln : (leftL R).length ≤ 1048576 := by rw [leftL_len, HRL.out]; omega
                  have hat : BodyAt wr2 (.slice ao5 ps.length cap5) (leftL R) := HOF.out.at
                  have HSG : Hid (Calls Try.prog 22 #[(.slice ao5 ps.length cap5)] wr2 fun e w' => e = .returned (.bool (decide (LineP (leftL R)))) ∧ Kept wr2 w') := sgoodline (leftL R) (.slice ao5 ps.length cap5) wr2 hat hln
                  clear hln hat
                  repeat (first | go_values | go_skip | go_guarded | go_step | go_upon)
                  go_at_call 22
                  refine HSG.out.mono ?_
                  clear HSG
                  by_cases hgl : LineP (leftL R)
                  · rw [decide_eq_true hgl]
                    rintro e w8 ⟨rfl, k8⟩
                    have HA : Hid (moveA ps t = some (leftL R)) := (show _ = _ by rw [moveA, HRD.out, if_pos ⟨HL.out, ht, hgl⟩])
                    have HK8 : Hid (But w1.heap.size w2.heap.size w2 w8) := HK2z.out.transK k8
                    have HO8 : Hid (BodyO w8 w1.heap.size w2.heap.size (.slice ao5 ps.length cap5) (leftL R)) := HOF.out.kept k8
                    clear k8 hgl
                    dsimp only
                    repeat (first | go_values | go_skip | go_guarded | go_step | go_upon)
                    refine bodyPost_ret (v := .tuple #[(.slice ao5 ps.length cap5), .bool true]) (by simp [results, Try.results65, go_sem]) rfl ?_
                    rw [HA.out]
                    exact ⟨_, rfl, HO8.out.mono hlo HK8.out.size, But.onto HK2.out HK8.out hlo⟩
                  · rw [decide_eq_false hgl]
                    rintro e w8 ⟨rfl, k8⟩
                    have HA : Hid (moveA ps t = none) := (show _ = _ by rw [moveA, HRD.out, if_neg (fun hh => hgl hh.2.2)])
                    have HK8 : Hid (But w1.heap.size w2.heap.size w2 w8) := HK2z.out.transK k8
                    clear k8 hgl
                    dsimp only
                    repeat (first | go_values | go_skip | go_guarded | go_step | go_upon)
                    refine bodyPost_ret (v := .tuple #[.slice none 0 0, .bool false]) (by simp [results, Try.results65, go_sem]) rfl ?_
                    rw [HA.out]
                    exact pushR_none rfl (But.onto HK2.out HK8.out hlo)
              · clear h00
                have HOF : Hid (BodyO wr2 w1.heap.size w2.heap.size (.slice ao5 ps.length cap5) (leftL R)) := ho
                have HK2z : Hid (But w1.heap.size w2.heap.size w2 wr2) := hkp
                clear ho hkp HO1 HK
                have dk2 : decide ((0 : Int) ≤ z) = false := by simp; omega
                have hln : (leftL R).length ≤ 1048576 := by rw [leftL_len, HRL.out]; omega
                have hat : BodyAt wr2 (.slice ao5 ps.length cap5) (leftL R) := HOF.out.at
                have HSG : Hid (Calls Try.prog 22 #[(.slice ao5 ps.length cap5)] wr2 fun e w' => e = .returned (.bool (decide (LineP (leftL R)))) ∧ Kept wr2 w') := sgoodline (leftL R) (.slice ao5 ps.length cap5) wr2 hat hln
                clear hln hat
                repeat (first | go_values | go_skip | go_guarded | go_step | go_upon)
                go_at_call 22
                refine HSG.out.mono ?_
                clear HSG
                by_cases hgl : LineP (leftL R)
                · rw [decide_eq_true hgl]
                  rintro e w8 ⟨rfl, k8⟩
                  have HA : Hid (moveA ps t = some (leftL R)) := (show _ = _ by rw [moveA, HRD.out, if_pos ⟨HL.out, ht, hgl⟩])
                  have HK8 : Hid (But w1.heap.size w2.heap.size w2 w8) := HK2z.out.transK k8
                  have HO8 : Hid (BodyO w8 w1.heap.size w2.heap.size (.slice ao5 ps.length cap5) (leftL R)) := HOF.out.kept k8
                  clear k8 hgl
                  dsimp only
                  repeat (first | go_values | go_skip | go_guarded | go_step | go_upon)
                  refine bodyPost_ret (v := .tuple #[(.slice ao5 ps.length cap5), .bool true]) (by simp [results, Try.results65, go_sem]) rfl ?_
                  rw [HA.out]
                  exact ⟨_, rfl, HO8.out.mono hlo HK8.out.size, But.onto HK2.out HK8.out hlo⟩
                · rw [decide_eq_false hgl]
                  rintro e w8 ⟨rfl, k8⟩
                  have HA : Hid (moveA ps t = none) := (show _ = _ by rw [moveA, HRD.out, if_neg (fun hh => hgl hh.2.2)])
                  have HK8 : Hid (But w1.heap.size w2.heap.size w2 w8) := HK2z.out.transK k8
                  clear k8 hgl
                  dsimp only
                  repeat (first | go_values | go_skip | go_guarded | go_step | go_upon)
                  refine bodyPost_ret (v := .tuple #[.slice none 0 0, .bool false]) (by simp [results, Try.results65, go_sem]) rfl ?_
                  rw [HA.out]
                  exact pushR_none rfl (But.onto HK2.out HK8.out hlo)
    · have dr : decide (0 ≤ t ∧ t ≤ 1000) = false := decide_eq_false ht
      have HA : Hid (moveA ps t = none) := (show _ = _ by rw [moveA, if_neg (fun hh => ht hh.2.1)])
      go_enter Try.func65, Try.ntmps65
      repeat (first | (go_at_call 22; refine (sgoodline _ _ _ hv hn).mono ?_; rw [dl]; rintro e w1 ⟨rfl, k1⟩; have HK1 : Hid (Kept w w1) := k1; clear k1; dsimp only) | (go_at_call 77; refine (sIn _ _ _ _).mono ?_; rw [dr]; rintro e w9 ⟨rfl, hw9⟩; rw [hw9]; clear hw9; dsimp only) | go_values | go_skip | go_guarded | go_step | go_upon)
      repeat (first | go_values | go_skip | go_guarded | go_step | go_upon)
      refine bodyPost_ret (v := .tuple #[.slice none 0 0, .bool false]) (by simp [results, Try.results65, go_sem]) rfl ?_
      rw [HA.out]
      exact pushR_none rfl HK1.out

  · have dl : decide (LineP ps) = false := decide_eq_false h
    have HA : Hid (moveA ps t = none) := (show _ = _ by rw [moveA, if_neg (fun hh => h hh.1)])
    go_enter Try.func65, Try.ntmps65
    repeat (first | (go_at_call 22; refine (sgoodline _ _ _ hv hn).mono ?_; rw [dl]; rintro e w1 ⟨rfl, k1⟩; have HK1 : Hid (Kept w w1) := k1; clear k1; dsimp only) | go_values | go_skip | go_guarded | go_step | go_upon)
    repeat (first | go_values | go_skip | go_guarded | go_step | go_upon)
    refine bodyPost_ret (v := .tuple #[.slice none 0 0, .bool false]) (by simp [results, Try.results65, go_sem]) rfl ?_
    rw [HA.out]
    exact pushR_none rfl HK1.out


end Go.Proofs.Ythpjjpgahmkpdaa
