/-
  MoveLine of the program.
-/
import Derived.Test.YthpjjpgahmkpdaaLay10
import Derived.Test.YthpjjpgahmkpdaaMove10
import Derived.Test.YthpjjpgahmkpdaaBodies10
import Derived.Test.YthpjjpgahmkpdaaGoodI10
import Derived.Test.YthpjjpgahmkpdaaPLineM10
import Derived.Test.YthpjjpgahmkpdaaLineI10
namespace Go.Proofs.Ythpjjpgahmkpdaa
open Go.ChangeShapes Go.WideShapes Go.ChangeAt Go.RowKit

set_option maxRecDepth 100000
set_option linter.unusedVariables false
set_option linter.unusedSimpArgs false

set_option maxHeartbeats 8000000 in
theorem imove (ps : List BodyD) (t : Int) (v : Value) (w : World) (hv : BodyAt w v ps) (hn : ps.length ≤ 1048576) :
    Calls Try.prog 16 #[v, .int .i64 t] w (PushR (moveA ps t) w) := by
  obtain ⟨ao, cap, hsl⟩ := row_nil hv
  subst hsl
  by_cases h : LineP ps
  · by_cases h1 : t < 0
    · have d1 : decide (t < 0) = true := decide_eq_true h1
      have HA : Hid (moveA ps t = none) := (show _ = _ by rw [moveA, if_neg (fun hh => by have := hh.2.1; omega)])
      go_enter Try.func16, Try.ntmps16
      repeat (first | (go_at_call 55; refine (lineOf ps _ _ hv hn).mono ?_; rintro e w1 hL; have HK1 : Hid (Kept w w1) := hL.2; obtain ⟨⟨v1, rfl, o1⟩, -⟩ := line_yes h hL; obtain ⟨ao1, cap1, hfm⟩ := o1.form; subst hfm; have HO1 : Hid (SolidO w1 w.heap.size w1.heap.size (.slice ao1 ps.length cap1) ps) := o1; clear o1; clear hL; dsimp only) | go_values | go_skip | go_guarded | go_step | go_upon)
      repeat (first | go_values | go_skip | go_guarded | go_step | go_upon)
      refine bodyPost_ret (v := .tuple #[.slice none 0 0, .bool false]) (by simp [results, Try.results16, go_sem]) rfl ?_
      rw [HA.out]
      exact pushR_none rfl HK1.out

    have d1 : decide (t < 0) = false := decide_eq_false h1
    by_cases h2 : 1000 < t
    · have d2 : decide (1000 < t) = true := decide_eq_true h2
      have HA : Hid (moveA ps t = none) := (show _ = _ by rw [moveA, if_neg (fun hh => by have := hh.2.1; omega)])
      go_enter Try.func16, Try.ntmps16
      repeat (first | (go_at_call 55; refine (lineOf ps _ _ hv hn).mono ?_; rintro e w1 hL; have HK1 : Hid (Kept w w1) := hL.2; obtain ⟨⟨v1, rfl, o1⟩, -⟩ := line_yes h hL; obtain ⟨ao1, cap1, hfm⟩ := o1.form; subst hfm; have HO1 : Hid (SolidO w1 w.heap.size w1.heap.size (.slice ao1 ps.length cap1) ps) := o1; clear o1; clear hL; dsimp only) | go_values | go_skip | go_guarded | go_step | go_upon)
      repeat (first | go_values | go_skip | go_guarded | go_step | go_upon)
      refine bodyPost_ret (v := .tuple #[.slice none 0 0, .bool false]) (by simp [results, Try.results16, go_sem]) rfl ?_
      rw [HA.out]
      exact pushR_none rfl HK1.out

    have d2 : decide (1000 < t) = false := decide_eq_false h2
    have ht : 0 ≤ t ∧ t ≤ 1000 := by omega
    have hl20 := h.1
    go_enter Try.func16, Try.ntmps16
    repeat (first | (go_at_call 55; refine (lineOf ps _ _ hv hn).mono ?_; rintro e w1 hL; have HK1 : Hid (Kept w w1) := hL.2; obtain ⟨⟨v1, rfl, o1⟩, -⟩ := line_yes h hL; obtain ⟨ao1, cap1, hfm⟩ := o1.form; subst hfm; have HO1 : Hid (SolidO w1 w.heap.size w1.heap.size (.slice ao1 ps.length cap1) ps) := o1; clear o1; clear hL; dsimp only) | go_values | go_skip | go_guarded | go_step | go_upon)
    have HL : Hid (LineP ps) := h
    have hw1 := HK1.out.size
    obtain ⟨Q, hQd⟩ : ∃ Q, ps.map (want t) = Q := ⟨_, rfl⟩
    have HQD : Hid (ps.map (want t) = Q) := hQd
    have HQL : Hid (Q.length = ps.length) := (show Q.length = ps.length by rw [← hQd, List.length_map])
    have HFQ : Hid (Fit (-2000000000) 2000000000 Q) := (show Fit _ _ Q by rw [← hQd]; exact fit_want h ht)
    clear h hQd hv
    go_loopw [27] (fun i wr => ∃ (k : Nat), k ≤ ps.length ∧ i = .int .i64 (k : Int) ∧ SolidO wr w.heap.size w1.heap.size (.slice ao1 ps.length cap1) (mix Q ps k) ∧ But w.heap.size w1.heap.size w1 wr) (fun i _ => ps.length - (intOf i).toNat)
    case atStart => exact ⟨0, by omega, rfl, by rw [mix_zero]; exact HO1.out, But.refl _ _ _⟩
    case round =>
      obtain ⟨k, hk, rfl, ho, hkp⟩ := hrel
      have HO : Hid (SolidO wr w.heap.size w1.heap.size (.slice ao1 ps.length cap1) (mix Q ps k)) := ho
      have HK : Hid (But w.heap.size w1.heap.size w1 wr) := hkp
      clear ho hkp HO1
      by_cases hlt : k < ps.length
      · obtain ⟨g, rfl, hg1, hg2, hx, hcap⟩ := solid_form HO.out (by rw [mix_len _ _ _ HQL.out hk]; omega)
        obtain ⟨⟨x, p, m, r⟩, hb⟩ : ∃ z, ps[k]? = some z := ⟨_, List.getElem?_eq_getElem hlt⟩
        obtain ⟨hbx, hbp, hbm, _, _⟩ := HL.out.body hb
        dsimp only at hbx hbp hbm
        have hmg : (mix Q ps k)[k]? = some (x, p, m, r) := by rw [mix_get _ _ _ HQL.out hlt]; exact hb
        have hml : ps.length = (mix Q ps k).length := (mix_len _ _ _ HQL.out hk).symm
        have hQk : Q[k]? = some ((want t (x, p, m, r)).1, p, m, r) := by rw [← HQD.out, List.getElem?_map, hb]; rfl
        have WAN : Hid (∀ W, Calls Try.prog 62 #[.agg #[.int .i64 x, .int .i64 p, .int .i64 m], .int .i64 t] W fun e w' => e = .returned (.int .i64 (want t (x, p, m, r)).1) ∧ Kept W w') := fun W => iwanted x p m t W hbx hbp ht
        generalize (want t (x, p, m, r)).1 = X at *
        have HST : Hid (mix Q ps (k + 1) = (mix Q ps k).set k (X, p, m, r)) := (mix_set _ _ k _ HQL.out hQk).symm
        have HM : Hid (ps.length = (mix Q ps k).length ∧ (mix Q ps k)[k]? = some (x, p, m, r)) := ⟨hml, hmg⟩
        obtain ⟨a0, a1, a2, a3, zf⟩ := HO.out.cells hmg
        dsimp only at a0 a1 a2 a3
        clear hb hmg hml hQk zf hx hbm
        repeat (first
          | (go_at_call 62; refine (WAN.out _).mono ?_
             rintro e w3 ⟨rfl, k3⟩
             have O3 := HO.out.kept k3
             obtain ⟨c0, c1, c2, c3, zf⟩ := O3.cells HM.out.2
             have zf0 := zf (k * 4)
             dsimp only at c0 c1 c2 c3
             have HO3 : Hid (SolidO w3 w.heap.size w1.heap.size (.slice (some ⟨g, 0, none⟩) ps.length cap1) (mix Q ps k)) := O3
             have HK3 : Hid (But w.heap.size w1.heap.size w1 w3) := HK.out.transK k3
             clear O3 k3 zf
             dsimp only)
          | go_values | go_skip | go_guarded | go_step | go_upon)
        refine ⟨⟨k + 1, hlt, by go_num, ?_, HK3.out.trans ((But.refl _ _ _).setCell (by simpa using hg1) (by simpa using hg2) _)⟩, by simp [intOf]; omega⟩
        rw [HST.out]
        exact HO3.out.set0 HM.out.1 HM.out.2 X
      · have hke : k = ps.length := by omega
        have HOQ : Hid (SolidO wr w.heap.size w1.heap.size (.slice ao1 ps.length cap1) Q) := (show SolidO _ _ _ _ _ by rw [← mix_all Q ps k (by rw [HQL.out, hke]) hke.symm]; exact HO.out)
        have dk : decide ((k : Int) < (ps.length : Int)) = false := by simp; omega
        clear HO
        have LRA : Hid (Calls Try.prog 63 #[(.slice ao1 ps.length cap1)] wr fun e w' => e = .returned (.tuple #[]) ∧ SolidO w' w.heap.size w1.heap.size (.slice ao1 ps.length cap1) (rightL Q) ∧ But w.heap.size w1.heap.size wr w') := layRight Q w.heap.size w1.heap.size (.slice ao1 ps.length cap1) wr HOQ.out (by rw [HQL.out]; omega) HFQ.out
        have LLA : Hid (∀ W, SolidO W w.heap.size w1.heap.size (.slice ao1 ps.length cap1) (rightL Q) → Calls Try.prog 64 #[(.slice ao1 ps.length cap1)] W fun e w' => e = .returned (.tuple #[]) ∧ SolidO w' w.heap.size w1.heap.size (.slice ao1 ps.length cap1) (leftL (rightL Q)) ∧ But w.heap.size w1.heap.size W w') := fun W hW => layLeft (rightL Q) w.heap.size w1.heap.size (.slice ao1 ps.length cap1) W hW (by rw [rightL_len, HQL.out]; omega) (fit_right HFQ.out (by rw [HQL.out]; omega))
        repeat (first | go_values | go_skip | go_guarded | go_step | go_upon)
        go_at_call 63
        refine Calls.mono LRA.out ?_
        rintro e w3 ⟨rfl, o3, b3⟩
        have HO3 : Hid (SolidO w3 w.heap.size w1.heap.size (.slice ao1 ps.length cap1) (rightL Q)) := o3
        have HK3 : Hid (But w.heap.size w1.heap.size w1 w3) := HK.out.trans b3
        clear o3 b3 LRA
        dsimp only
        repeat (first | go_values | go_skip | go_guarded | go_step | go_upon)
        go_at_call 64
        refine Calls.mono (LLA.out _ HO3.out) ?_
        rintro e w4 ⟨rfl, o4, b4⟩
        have HO4 : Hid (SolidO w4 w.heap.size w1.heap.size (.slice ao1 ps.length cap1) (leftL (rightL Q))) := o4
        have HK4 : Hid (But w.heap.size w1.heap.size w1 w4) := HK3.out.trans b4
        have HLn : Hid ((leftL (rightL Q)).length = ps.length) := (show _ = _ by rw [leftL_len, rightL_len, HQL.out])
        have BOA : Hid (Calls Try.prog 58 #[(.slice ao1 ps.length cap1)] w4 fun e w' => ∃ v', e = .returned v' ∧ BodyO w' w4.heap.size w'.heap.size v' (leftL (rightL Q)) ∧ Kept w4 w') := bodiesOf (leftL (rightL Q)) (.slice ao1 ps.length cap1) w4 o4.at (by rw [HLn.out]; omega)
        clear o4 b4 LLA
        dsimp only
        repeat (first | go_values | go_skip | go_guarded | go_step | go_upon)
        go_at_call 58
        refine Calls.mono BOA.out ?_
        rintro e w5 ⟨v5, rfl, o5, k5⟩
        obtain ⟨ao5, cap5, hf5⟩ := o5.form
        subst hf5
        have HK5 : Hid (Kept w w5) := But.onto HK1.out (HK4.out.transK k5) (Nat.le_refl _)
        have hs5 := HK5.out.size
        have hs45 : w.heap.size ≤ w4.heap.size := by have := HK4.out.size; omega
        have GLA : Hid (Calls Try.prog 24 #[.slice ao5 (leftL (rightL Q)).length cap5] w5 fun e w' => e = .returned (.bool (decide (LineP (leftL (rightL Q))))) ∧ Kept w5 w') := igoodline (leftL (rightL Q)) _ w5 o5.at (by rw [HLn.out]; omega)
        have HO5 : Hid (BodyO w5 w4.heap.size w5.heap.size (.slice ao5 (leftL (rightL Q)).length cap5) (leftL (rightL Q))) := o5
        have HMA : Hid (moveA ps t = if LineP (leftL (rightL Q)) then some (leftL (rightL Q)) else none) := (show _ = _ by
          rw [moveA, HQD.out]
          by_cases hh : LineP (leftL (rightL Q))
          · rw [if_pos hh, if_pos ⟨HL.out, ht, hh⟩]
          · rw [if_neg hh, if_neg (fun h => hh h.2.2)])
        clear o5 k5 BOA
        generalize leftL (rightL Q) = RR at *
        dsimp only
        repeat (first | go_values | go_skip | go_guarded | go_step | go_upon)
        go_at_call 24
        refine Calls.mono GLA.out ?_
        by_cases hgl : LineP RR
        · rw [decide_eq_true hgl]
          rintro e w8 ⟨rfl, k8⟩
          have HA : Hid (moveA ps t = some RR) := (show _ = _ by rw [HMA.out, if_pos hgl])
          have HK8 : Hid (Kept w w8) := HK5.out.trans k8
          have HO8 : Hid (BodyO w8 w.heap.size w8.heap.size (.slice ao5 RR.length cap5) RR) := (HO5.out.kept k8).mono hs45 k8.size
          clear k8 hgl
          dsimp only
          repeat (first | go_values | go_skip | go_guarded | go_step | go_upon)
          refine bodyPost_ret (v := .tuple #[.slice ao5 RR.length cap5, .bool true]) (by simp [results, Try.results16, go_sem]) rfl ?_
          rw [HA.out]
          exact ⟨_, rfl, HO8.out, HK8.out⟩
        · rw [decide_eq_false hgl]
          rintro e w8 ⟨rfl, k8⟩
          have HA : Hid (moveA ps t = none) := (show _ = _ by rw [HMA.out, if_neg hgl])
          have HK8 : Hid (Kept w w8) := HK5.out.trans k8
          clear k8 hgl
          dsimp only
          repeat (first | go_values | go_skip | go_guarded | go_step | go_upon)
          refine bodyPost_ret (v := .tuple #[.slice none 0 0, .bool false]) (by simp [results, Try.results16, go_sem]) rfl ?_
          rw [HA.out]
          exact pushR_none rfl HK8.out

  · have HA : Hid (moveA ps t = none) := (show _ = _ by rw [moveA, if_neg (fun hh => h hh.1)])
    go_enter Try.func16, Try.ntmps16
    repeat (first | (go_at_call 55; refine (lineOf ps _ _ hv hn).mono ?_; rintro e w1 hL; have HK1 : Hid (Kept w w1) := hL.2; obtain ⟨rfl, -⟩ := line_no h hL; clear hL; dsimp only) | go_values | go_skip | go_guarded | go_step | go_upon)
    repeat (first | go_values | go_skip | go_guarded | go_step | go_upon)
    refine bodyPost_ret (v := .tuple #[.slice none 0 0, .bool false]) (by simp [results, Try.results16, go_sem]) rfl ?_
    rw [HA.out]
    exact pushR_none rfl HK1.out


end Go.Proofs.Ythpjjpgahmkpdaa
