/-
  What is picked by weight, on both sides.
-/
import Derived.Test.YtpeiblodefaajaaPick12
import Derived.Test.YtpeiblodefaajaaNum
namespace Go.Proofs.Ytpeiblodefaajaa
open Go.ChangeShapes Go.WideShapes Go.ChangeAt Go.RowKit

set_option maxRecDepth 100000
set_option linter.unusedVariables false
set_option maxHeartbeats 4000000 in
theorem isum (l : List Int) (v : Value) (w : World) (hv : NumAt w v l) (hn : l.length ≤ 9000000000000000000) :
    Calls Try.prog 37 #[v] w fun e w' => e = .returned (.tuple #[.int .i64 (sumV l), .bool (sumB l)]) ∧ Kept w w' := by
  obtain ⟨ao, cap, hsl⟩ := row_nil hv
  subst hsl
  by_cases h3 : l.length ≤ 60
  · have d4 : decide ((60 : Int) < (l.length : Int)) = false := by simp; omega
    go_enter Try.func37, Try.ntmps37
    go_wp2
    clear d4
    go_loopw [4, 12] (fun x i wr => ∃ (k : Nat) (c : Int), k ≤ l.length ∧ i = .int .i64 k ∧ x = .int .i64 c ∧ Hid (c = pre l k ∧ ∀ j, j < k → ∀ p : Int, l[j]? = some p → 0 ≤ p ∧ p ≤ 1000000) ∧ 0 ≤ c ∧ c ≤ 1000000 * k ∧ wr = w) (fun _ i _ => l.length - (intOf i).toNat)
    case atStart => exact ⟨0, 0, by omega, rfl, rfl, ⟨(pre_zero l).symm, fun j hj => by omega⟩, by omega, by omega, rfl⟩
    case round =>
      obtain ⟨k, c, hk, rfl, rfl, HC, hc0, hc1, rfl⟩ := hrel
      by_cases hlt : k < l.length
      · obtain ⟨p, hp⟩ : ∃ p : Int, l[k]? = some p := ⟨_, List.getElem?_eq_getElem hlt⟩
        obtain ⟨b, o, cap', e, c0⟩ := num_get hv hp
        cases e
        have HP : Hid _ := hp
        clear hp
        by_cases hb : 0 ≤ p ∧ p ≤ 1000000
        · have q1 : decide (p < 0) = false := by simp; omega
          have q2 : decide (1000000 < p) = false := by simp; omega
          go_wp2
          refine ⟨⟨k + 1, c + p, hlt, by go_num, rfl, ⟨by rw [pre_succ HP.out, HC.out.1], fun j hj p' hp' => ?_⟩, by omega, by omega, by trivial⟩, by simp [intOf]; omega⟩
          by_cases hjk : j = k
          · subst hjk
            have := HP.out.symm.trans hp'
            cases this
            exact hb
          · exact HC.out.2 j (by omega) p' hp'
        · have hx : ¬ WP l := fun h => hb (h.at HP.out)
          have HX : Hid _ := hx
          clear hx
          by_cases q0 : p < 0
          · go_wp2
            go_returns
            exact ⟨ret2 (sum_no HX.out).1.symm (sum_no HX.out).2.symm, But.refl _ _ _⟩
          · have q1 : decide (p < 0) = false := by simp; omega
            have q2 : decide (1000000 < p) = true := by simp; omega
            go_wp2
            go_returns
            exact ⟨ret2 (sum_no HX.out).1.symm (sum_no HX.out).2.symm, But.refl _ _ _⟩
      · have hke : k = l.length := by omega
        subst hke
        have hx : WP l := WP.of h3 HC.out.2
        have hs : c = l.sum := by rw [HC.out.1, pre_all]
        have hb : decide (0 < l.sum) = decide (0 < c) := by rw [hs]
        have HX : Hid (WP l) := hx
        have HH : Hid (c = l.sum) := hs
        have HB : Hid (decide (0 < l.sum) = decide (0 < c)) := hb
        clear hs hb hx
        go_wp2
        go_returns
        exact ⟨ret2 (by rw [(sum_yes HX.out).1]; exact HH.out) (by rw [(sum_yes HX.out).2]; exact HB.out.symm), But.refl _ _ _⟩
  · have hx : ¬ WP l := fun h => h3 h.1
    rw [(sum_no hx).1, (sum_no hx).2]
    have d4 : decide ((60 : Int) < (l.length : Int)) = true := by simp; omega
    go_enter Try.func37, Try.ntmps37
    go_wp2
    go_returns
    exact ⟨rfl, But.refl _ _ _⟩
set_option maxHeartbeats 4000000 in
theorem spick (l : List Int) (sd : Int) (v : Value) (w : World) (hv : NumAt w v l) (hn : l.length ≤ 9000000000000000000) :
    Calls Try.prog 16 #[v, .int .i64 sd] w fun e w' => e = .returned (.tuple #[.int .i64 (pickA l sd).1, .int .i64 (pickA l sd).2.1, .bool (pickA l sd).2.2]) ∧ Kept w w' := by
  obtain ⟨ao, cap, hsl⟩ := row_nil hv
  subst hsl
  by_cases h1 : 0 ≤ sd ∧ sd ≤ 2147483647
  · have d1 : decide (0 ≤ sd ∧ sd ≤ 2147483647) = true := decide_eq_true h1
    by_cases h2 : 1 ≤ l.length
    · have d2 : decide ((l.length : Int) < 1) = false := by simp; omega
      by_cases h3 : l.length ≤ 60
      · have d3 : decide ((60 : Int) < (l.length : Int)) = false := by simp; omega
        go_enter Try.func16, Try.ntmps16
        go_wp2_with (go_at_call 30; refine (sseed _ _).mono ?_; rintro e w1 ⟨rfl, hw1⟩; rw [hw1, d1]; clear hw1 w1)
        clear d1 d2 d3
        go_loopw [7, 31] (fun x i wr => ∃ (k : Nat) (c : Int), k ≤ l.length ∧ i = .int .i64 k ∧ x = .int .i64 c ∧ Hid (c = pre l k ∧ ∀ j, j < k → ∀ p : Int, l[j]? = some p → 0 ≤ p ∧ p ≤ 1000000) ∧ 0 ≤ c ∧ c ≤ 1000000 * k ∧ wr = w) (fun _ i _ => l.length - (intOf i).toNat)
        case atStart => exact ⟨0, 0, by omega, rfl, rfl, ⟨(pre_zero l).symm, fun j hj => by omega⟩, by omega, by omega, rfl⟩
        case round =>
          obtain ⟨k, c, hk, rfl, rfl, HC, hc0, hc1, rfl⟩ := hrel
          by_cases hlt : k < l.length
          · obtain ⟨p, hp⟩ : ∃ p : Int, l[k]? = some p := ⟨_, List.getElem?_eq_getElem hlt⟩
            obtain ⟨b, o, cap', e, c0⟩ := num_get hv hp
            cases e
            have HP : Hid _ := hp
            clear hp
            by_cases hb : 0 ≤ p ∧ p ≤ 1000000
            · have q1 : decide (0 ≤ p ∧ p ≤ 1000000) = true := decide_eq_true hb
              go_wp2_with (go_at_call 26; refine (sIn _ _ _ _).mono ?_; rintro e w1 ⟨rfl, hw1⟩; rw [hw1, q1]; clear hw1 w1)
              refine ⟨⟨k + 1, c + p, hlt, by go_num, rfl, ⟨by rw [pre_succ HP.out, HC.out.1], fun j hj p' hp' => ?_⟩, by omega, by omega, by trivial⟩, by simp [intOf]; omega⟩
              by_cases hjk : j = k
              · subst hjk
                have := HP.out.symm.trans hp'
                cases this
                exact hb
              · exact HC.out.2 j (by omega) p' hp'
            · have q1 : decide (0 ≤ p ∧ p ≤ 1000000) = false := decide_eq_false hb
              go_wp2_with (go_at_call 26; refine (sIn _ _ _ _).mono ?_; rintro e w1 ⟨rfl, hw1⟩; rw [hw1, q1]; clear hw1 w1)
              go_returns
              exact ⟨ret3 (pickA_no (fun h => hb (h.1.at HP.out))).symm, But.refl _ _ _⟩
          · have hke : k = l.length := by omega
            subst hke
            have hx : WP l := WP.of h3 HC.out.2
            have hs : c = l.sum := by rw [HC.out.1, pre_all]
            clear HC
            by_cases hz : c = 0
            · have dz : (c == 0) = true := by simpa using hz
              have HH : Hid _ := hs
              have HZ : Hid _ := hz
              clear hs hz
              go_wp2
              go_returns
              exact ⟨ret3 (pickA_no (fun h => by have h3 := h.2.1; have h4 : c = l.sum := HH.out; have h5 : c = 0 := HZ.out; omega)).symm, But.refl _ _ _⟩
            · have dz : (c == 0) = false := by simpa using hz
              have hpos : 0 < c := by omega
              have hcb := coinC_bd sd
              have hm := mul_bd2 hc0 (by omega) hcb
              rw [Int.mul_comm] at hm
              have hsh : coinC sd * c / 32768 = shareI l.sum (coinC sd) := by rw [← hs, shareI, Int.mul_comm]
              have hgood : WP l ∧ 0 < l.sum ∧ 0 ≤ sd ∧ sd ≤ 2147483647 := ⟨hx, by omega, h1⟩
              have hsb := share_bd hgood.2.1 hcb
              have hpk := pick_is hsb.2 hsb.1
              rw [← hsh] at hpk hsb
              have HA : Hid _ := pickA_yes hgood (hsh ▸ hpk)
              obtain ⟨I, hI⟩ : ∃ I, pickI (coinC sd * c / 32768) l = I := ⟨_, rfl⟩
              rw [hI] at hpk
              have HG : Hid _ := hgood
              have HS : Hid _ := hs
              have HX : Hid (WP l) := hx
              have HH : Hid _ := hsh
              have HSB : Hid _ := hsb
              have HPK : Hid (IsPick l (coinC sd * c / 32768) I) := hpk
              have h10 := h1.1
              have h11 := h1.2
              have hc2 := hcb.1
              have hc3 := hcb.2
              have hm0 := hm.1
              have hm1 := hm.2
              have HA : Hid (pickA l sd = ((I : Int), coinN sd, true)) := pickA_yes hgood (hsh ▸ hpk)
              clear hgood hs hx hsh hsb hpk h1 hcb hm hI
              go_wp2_with (go_at_call 36; refine (scoin _ _ h10 h11).mono ?_; rintro e w1 ⟨rfl, hw1⟩; rw [hw1]; clear hw1 w1)
              clear hm0 hm1 hc2 hc3 hc0 hc1 hpos dz
              rename World => wr0
              go_loopw [13, 55] (fun x i wr => ∃ (k : Nat) (h : Int), k ≤ I ∧ i = .int .i64 k ∧ x = .int .i64 h ∧ Hid (h = pre l k) ∧ 0 ≤ h ∧ h ≤ 60000000 ∧ wr = wr0) (fun _ i _ => l.length - (intOf i).toNat)
              case atStart => exact ⟨0, 0, by omega, rfl, rfl, (pre_zero l).symm, by omega, by omega, rfl⟩
              case round =>
                obtain ⟨k, h, hk, rfl, rfl, HC, hc0, hc1, rfl⟩ := hrel
                have hlt : k < l.length := Nat.lt_of_le_of_lt hk HPK.out.1
                obtain ⟨p, hp⟩ : ∃ p : Int, l[k]? = some p := ⟨_, List.getElem?_eq_getElem hlt⟩
                obtain ⟨b, o, cap', e, c0⟩ := num_get hv hp
                cases e
                have hb := HX.out.at hp
                have hps : pre l (k + 1) = h + p := by rw [pre_succ hp, HC.out]
                have HP : Hid (pre l (k + 1) = h + p) := hps
                clear hp hps
                by_cases hki : k = I
                · subst hki
                  have q1 : decide (coinC sd * c / 32768 < h + p) = true := by
                    have := HPK.out.2.1
                    rw [HP.out] at this
                    exact decide_eq_true this
                  go_wp2
                  go_returns
                  exact ⟨ret3 HA.out.symm, But.refl _ _ _⟩
                · have q1 : decide (coinC sd * c / 32768 < h + p) = false := by
                    have := HPK.out.2.2 k (by omega)
                    rw [HP.out] at this
                    exact decide_eq_false (by omega)
                  have hbd := HX.out.pre (k + 1) (by omega)
                  rw [HP.out] at hbd
                  have hb0 := hbd.1
                  have hb1 := hbd.2
                  clear hbd
                  go_wp2
                  exact ⟨⟨k + 1, h + p, by omega, by go_num, rfl, HP.out.symm, by omega, by omega, by trivial⟩, by simp [intOf]; omega⟩
      · rw [pickA_no (fun h => h3 h.1.1)]
        have d3 : decide ((60 : Int) < (l.length : Int)) = true := by simp; omega
        go_enter Try.func16, Try.ntmps16
        go_wp2_with (go_at_call 30; refine (sseed _ _).mono ?_; rintro e w1 ⟨rfl, hw1⟩; rw [hw1, d1]; clear hw1 w1)
        go_returns
        exact ⟨rfl, But.refl _ _ _⟩
    · rw [pickA_no (fun h => by have := h.2.1; have e : l = [] := List.eq_nil_of_length_eq_zero (by omega); rw [e] at this; simp at this)]
      have d2 : decide ((l.length : Int) < 1) = true := by simp; omega
      have HH : Hid _ := h2
      clear h2
      go_enter Try.func16, Try.ntmps16
      go_wp2_with (go_at_call 30; refine (sseed _ _).mono ?_; rintro e w1 ⟨rfl, hw1⟩; rw [hw1, d1]; clear hw1 w1)
      go_returns
      exact ⟨rfl, But.refl _ _ _⟩
  · rw [pickA_no (fun h => h1 h.2.2)]
    have d1 : decide (0 ≤ sd ∧ sd ≤ 2147483647) = false := decide_eq_false h1
    go_enter Try.func16, Try.ntmps16
    go_wp2_with (go_at_call 30; refine (sseed _ _).mono ?_; rintro e w1 ⟨rfl, hw1⟩; rw [hw1, d1]; clear hw1 w1)
    all_goals
      go_returns
      exact ⟨rfl, But.refl _ _ _⟩
set_option maxHeartbeats 4000000 in
theorem ipick (l : List Int) (sd : Int) (v : Value) (w : World) (hv : NumAt w v l) (hn : l.length ≤ 9000000000000000000) :
    Calls Try.prog 18 #[v, .int .i64 sd] w fun e w' => e = .returned (.tuple #[.int .i64 (pickA l sd).1, .int .i64 (pickA l sd).2.1, .bool (pickA l sd).2.2]) ∧ Kept w w' := by
  obtain ⟨ao, cap, hsl⟩ := row_nil hv
  subst hsl
  by_cases h : WP l ∧ 0 < l.sum
  · have d1 : decide (WP l ∧ 0 < l.sum) = true := decide_eq_true h
    by_cases h2 : 0 ≤ sd ∧ sd ≤ 2147483647
    · have d2 : decide (0 ≤ sd ∧ sd ≤ 2147483647) = true := decide_eq_true h2
      go_enter Try.func18, Try.ntmps18
      repeat (first | go_values | go_skip | go_guarded | go_step | go_upon)
      go_at_call 37
      refine (isum l _ _ (hv.kept ((But.refl _ _ _).alloc _)) hn).mono ?_
      rintro e u1 ⟨rfl, k1⟩
      rw [show sumB l = true from d1, show sumV l = l.sum from if_pos h.1]
      dsimp only
      have L1 := (Loc.new w [.int .i64 sd] 3).kept k1
      have f0 := L1.cell 0 rfl
      have g0 := L1.frozen 0
      have s1 := L1.lt
      repeat (first | (go_at_call 33; refine (iseed _ _).mono ?_; rintro e w1 ⟨rfl, hw1⟩; rw [hw1, d2]; clear hw1 w1; dsimp only) | go_values | go_skip | go_guarded | go_step | go_upon)
      go_at_call 38
      refine (ifromL _ _).mono ?_
      rintro e u2 ⟨rfl, Lb, k2⟩
      have L1 := L1.kept k2
      have s2 := Lb.lt
      have K2 : Kept w u2 := (((But.refl _ _ w).alloc _).trans k1).trans k2
      clear f0 g0 k1 k2
      dsimp only
      repeat (first | go_values | go_skip | go_guarded | go_step | go_upon)
      go_at_call 43
      refine (iflipL _ _ _ _ _ h2.1 h2.2 Lb L1).mono ?_
      rintro e u3 ⟨rfl, L3, k3⟩
      have K3 := K2.onto k3 (Nat.le_refl _)
      have f3 := L3.cell 0 rfl
      clear Lb L1 K2 k3 s1 s2
      dsimp only
      repeat (first | go_values | go_skip | go_guarded | go_step | go_upon)
      go_at_call 39
      have hcb := coinC_bd sd
      have hsm := h.1.sum
      have hm := mul_bd2 hsm.1 hsm.2 hcb
      refine (ishare _ _ _ hsm.1 hsm.2 hcb.1 hcb.2 hm.1 hm.2).mono ?_
      rintro e w1 ⟨rfl, hw1⟩
      rw [hw1]
      clear hw1 w1
      have hgood : WP l ∧ 0 < l.sum ∧ 0 ≤ sd ∧ sd ≤ 2147483647 := ⟨h.1, h.2, h2⟩
      have hsb := share_bd h.2 hcb
      obtain ⟨T, hT⟩ : ∃ T, shareI l.sum (coinC sd) = T := ⟨_, rfl⟩
      have hpk := pick_is hsb.2 hsb.1
      rw [hT] at hpk hsb
      rw [show l.sum * coinC sd / 32768 = T from hT]
      obtain ⟨I, hI⟩ : ∃ I, pickI T l = I := ⟨_, rfl⟩
      rw [hI] at hpk
      have HA : Hid (pickA l sd = ((I : Int), coinN sd, true)) := pickA_yes hgood (by rw [hT]; exact hpk)
      have HPK : Hid (IsPick l T I) := hpk
      have HX : Hid (WP l) := h.1
      have hl0 : 0 < l.length := Nat.lt_of_le_of_lt (Nat.zero_le _) hpk.1
      clear hgood hpk hI hT hsb hm hsm hcb h h2 d1 d2
      obtain ⟨p, hp⟩ : ∃ p : Int, l[0]? = some p := ⟨_, List.getElem?_eq_getElem hl0⟩
      obtain ⟨b, o, cap', e, c0⟩ := num_get (hv.kept K3) hp
      cases e
      have hp1 : pre l 1 = p := by have := pre_succ hp; rw [pre_zero] at this; simpa using this
      have hpb := HX.out.at hp
      have HP1 : Hid (pre l 1 = p) := hp1
      clear hp hp1
      dsimp only
      have hz : decide ((0 : Int) < (l.length : Int)) = true := by simp; omega
      have HK : Hid _ := K3
      have HL : Hid _ := L3
      clear K3 L3
      simp only [Nat.add_zero] at c0
      repeat (first | go_values | go_skip | go_guarded | go_step | go_upon)
      have hz' : decide ((0 : Nat) < l.length) = true := by simpa using hl0
      go_quiet (fail)
      go_wp2
      clear hz hz' c0
      go_loopw [11, 12] (fun i x wr => ∃ (k : Nat) (h : Int), k ≤ I ∧ i = .int .i64 k ∧ x = .int .i64 h ∧ Hid (h = pre l (k + 1)) ∧ 0 ≤ h ∧ h ≤ 60000000 ∧ Kept u3 wr) (fun i _ _ => l.length - (intOf i).toNat)
      case atStart => exact ⟨0, p, by omega, rfl, rfl, HP1.out.symm, by omega, by omega, by repeat (first | with_reducible exact But.refl _ _ _ | with_reducible apply But.drewN | with_reducible apply But.drew)⟩
      case round =>
        obtain ⟨k, h, hk, rfl, rfl, HC, hc0, hc1, hkp⟩ := hrel
        by_cases hki : k = I
        · subst hki
          have q1 : decide (h ≤ T) = false := by
            have := HPK.out.2.1
            rw [← HC.out] at this
            exact decide_eq_false (by omega)
          have f4 := Kept.cell hkp f3
          have HKP : Hid _ := hkp
          clear hkp
          repeat (first | go_values | go_skip | go_guarded | go_step | go_upon)
          go_quiet (fail)
          go_wp2
          go_returns
          exact ⟨ret3 HA.out.symm, (HK.out.trans HKP.out).drewN _⟩
        · have q1 : decide (h ≤ T) = true := by
            have := HPK.out.2.2 k (by omega)
            rw [← HC.out] at this
            exact decide_eq_true (by omega)
          have hlt : k + 1 < l.length := by have := HPK.out.1; omega
          obtain ⟨p', hp⟩ : ∃ p : Int, l[k + 1]? = some p := ⟨_, List.getElem?_eq_getElem hlt⟩
          obtain ⟨b', o', cap2, e, c1⟩ := num_get (hv.kept (HK.out.trans hkp)) hp
          cases e
          have hps : pre l (k + 1 + 1) = h + p' := by rw [pre_succ hp, HC.out]
          have hb := HX.out.at hp
          have hbd := HX.out.pre (k + 1 + 1) (by omega)
          rw [hps] at hbd
          have hb0 := hbd.1
          have hb1 := hbd.2
          have HP : Hid (pre l (k + 1 + 1) = h + p') := hps
          have HKP : Hid _ := hkp
          have hkw : IntKind.i64.wrap ((k : Int) + 1) = ((k + 1 : Nat) : Int) := by rw [IntWalk.i64_in _ (by omega)]; omega
          clear hps hbd hkp hp
          go_wp2
          exact ⟨⟨k + 1, h + p', by omega, by go_num, rfl, HP.out.symm, by omega, by omega, HKP.out⟩, by simp [intOf]; omega⟩
    · rw [pickA_no (fun k => h2 k.2.2)]
      have d2 : decide (0 ≤ sd ∧ sd ≤ 2147483647) = false := decide_eq_false h2
      go_enter Try.func18, Try.ntmps18
      repeat (first | go_values | go_skip | go_guarded | go_step | go_upon)
      go_at_call 37
      refine (isum l _ _ (hv.kept ((But.refl _ _ _).alloc _)) hn).mono ?_
      rintro e u1 ⟨rfl, k1⟩
      rw [show sumB l = true from d1]
      dsimp only
      have L1 := (Loc.new w [.int .i64 sd] 3).kept k1
      have f0 := L1.cell 0 rfl
      repeat (first | (go_at_call 33; refine (iseed _ _).mono ?_; rintro e w1 ⟨rfl, hw1⟩; rw [hw1, d2]; clear hw1 w1; dsimp only) | go_values | go_skip | go_guarded | go_step | go_upon)
      go_returns
      exact ⟨rfl, ((But.refl _ _ _).alloc _).trans k1⟩
  · rw [pickA_no (fun k => h ⟨k.1, k.2.1⟩)]
    have d1 : decide (WP l ∧ 0 < l.sum) = false := decide_eq_false h
    go_enter Try.func18, Try.ntmps18
    repeat (first | go_values | go_skip | go_guarded | go_step | go_upon)
    go_at_call 37
    refine (isum l _ _ (hv.kept ((But.refl _ _ _).alloc _)) hn).mono ?_
    rintro e u1 ⟨rfl, k1⟩
    rw [show sumB l = false from d1]
    dsimp only
    repeat (first | go_values | go_skip | go_guarded | go_step | go_upon)
    go_returns
    exact ⟨rfl, ((But.refl _ _ _).alloc _).trans k1⟩

end Go.Proofs.Ytpeiblodefaajaa
