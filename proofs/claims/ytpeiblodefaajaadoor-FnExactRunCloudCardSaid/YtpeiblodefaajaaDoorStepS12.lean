/-
  What the specification's StepCloud answers.
-/
import Derived.Test.YtpeiblodefaajaaDoorStepI12
import Derived.Test.YtpeiblodefaajaaDoorZed12
namespace Go.Proofs.YtpeiblodefaajaaDoor
open Go.ChangeShapes Go.WideShapes Go.ChangeAt Go.RowKit

set_option maxRecDepth 100000
set_option linter.unusedVariables false
theorem ssinK (a : Int) (w : World) (h1 : -9223372036854775808 ≤ a) (h2 : a ≤ 9223372036854775807) : Calls Tryd.prog 43 #[.int .i64 a] w fun e w' => e = .returned (.int .i64 (sinM a)) ∧ Kept w w' := (ssin_any a w h1 h2).mono fun _ _ ⟨h, k⟩ => ⟨h, kept_grown k⟩
theorem scosK (a : Int) (w : World) (h1 : -9223372036854775808 ≤ a) (h2 : a ≤ 9223372036854775807) : Calls Tryd.prog 42 #[.int .i64 a] w fun e w' => e = .returned (.int .i64 (cosM a)) ∧ Kept w w' := (scos_any a w h1 h2).mono fun _ _ ⟨h, k⟩ => ⟨h, kept_grown k⟩
theorem smulK (a b : Int) (w : World) : Calls Tryd.prog 41 #[.int .i64 a, .int .i64 b] w fun e w' => e = .returned (.int .i64 (mulM a b)) ∧ Kept w w' := (smul_any a b w).mono fun _ _ ⟨h, k⟩ => ⟨h, kept_grown k⟩
set_option maxHeartbeats 8000000 in
theorem sstep (x y ev bu li sv fa sd st : Int) (ps : List SparkD) (ao : Option Addr) (cap : Nat) (w : World) (hT : Tab w) (hv : SparkAt w (.slice ao ps.length cap) ps) (hn : ps.length ≤ 1048576) :
    Calls Tryd.prog 15 #[.agg #[.int .i64 x, .int .i64 y, .int .i64 ev, .int .i64 bu, .int .i64 li, .int .i64 sv, .int .i64 fa], .agg #[.int .i64 sd, .int .i64 st, .slice ao ps.length cap]] w fun r w' => ∃ v', r = .returned (.tuple #[v', .bool (stepA (x, y, ev, bu, li, sv, fa) (sd, st, ps)).2]) ∧ CloudO w' w.heap.size w'.heap.size v' (stepA (x, y, ev, bu, li, sv, fa) (sd, st, ps)).1 ∧ Kept w w' := by
  have h00 := hT.size
  obtain ⟨W0, hW0⟩ : ∃ W, W = ((w.alloc (.cells #[.int .i64 x, .int .i64 y, .int .i64 ev, .int .i64 bu, .int .i64 li, .int .i64 sv, .int .i64 fa] 24)).alloc (.cells #[.int .i64 sd, .int .i64 st, .slice ao ps.length cap] 27)).alloc (.cells #[.int .i64 0, .int .i64 0, .slice none 0 0] 27) := ⟨_, rfl⟩
  have K0 : Kept w W0 := by rw [hW0]; exact (((But.refl _ _ _).alloc _).alloc _).alloc _
  have Le : Loc W0 w.heap.size [.int .i64 x, .int .i64 y, .int .i64 ev, .int .i64 bu, .int .i64 li, .int .i64 sv, .int .i64 fa] := by rw [hW0]; exact ((Loc.new w _ 24).alloc _).alloc _
  have Lc : Loc W0 (w.heap.size + 1) [.int .i64 sd, .int .i64 st, .slice ao ps.length cap] := by rw [hW0]; have := (Loc.new (w.alloc (.cells #[.int .i64 x, .int .i64 y, .int .i64 ev, .int .i64 bu, .int .i64 li, .int .i64 sv, .int .i64 fa] 24)) [.int .i64 sd, .int .i64 st, .slice ao ps.length cap] 27).alloc (.cells #[.int .i64 0, .int .i64 0, .slice none 0 0] 27); simpa using this
  have Lr : Loc W0 (w.heap.size + 1 + 1) [.int .i64 0, .int .i64 0, .slice none 0 0] := by rw [hW0]; have := Loc.new ((w.alloc (.cells #[.int .i64 x, .int .i64 y, .int .i64 ev, .int .i64 bu, .int .i64 li, .int .i64 sv, .int .i64 fa] 24)).alloc (.cells #[.int .i64 sd, .int .i64 st, .slice ao ps.length cap] 27)) [.int .i64 0, .int .i64 0, .slice none 0 0] 27; simpa using this
  have s0 : W0.heap.size = w.heap.size + 1 + 1 + 1 := by rw [hW0]; simp
  have HW0 : Hid (W0 = _) := hW0
  have HS0 : Hid (W0.heap.size = w.heap.size + 1 + 1 + 1) := s0
  clear hW0 s0
  obtain ⟨N, hN⟩ : ∃ N, (laterL fa ps).length = N := ⟨_, rfl⟩
  by_cases hE : EP (x, y, ev, bu, li, sv, fa)
  · have dE : decide (EmitP x y ev bu li sv fa) = true := decide_eq_true hE
    by_cases hC : CloudP (sd, st, ps)
    · have dC : decide (CloudP (sd, st, ps)) = true := decide_eq_true hC
      by_cases hM : st = 200
      · rw [stepA_no (fun h => h.2.2 hM)]
        have dM : (st == 200) = true := by simpa using hM
        have HM : Hid _ := hM
        clear hM
        have e0 := Le.cell 0 rfl
        have e1 := Le.cell 1 rfl
        have e2 := Le.cell 2 rfl
        have e3 := Le.cell 3 rfl
        have e4 := Le.cell 4 rfl
        have e5 := Le.cell 5 rfl
        have e6 := Le.cell 6 rfl
        go_enter Tryd.func15, Tryd.ntmps15
        repeat (first | rw [← HW0.out] | go_values | go_skip | go_guarded | go_step | go_upon)
        go_at_call 29
        refine (sgoodE _ _ _ _ _ _ _ _).mono ?_
        rintro e u1 ⟨rfl, k1⟩
        rw [dE]
        have Le := Le.kept k1
        have Lc := Lc.kept k1
        have Lr := Lr.kept k1
        have K1 := K0.trans k1
        have s1 := k1.size
        clear k1 K0 e0 e1 e2 e3 e4 e5 e6
        have c0 := Lc.cell 0 rfl
        have c1 := Lc.cell 1 rfl
        have c2 := Lc.cell 2 rfl
        dsimp only
        repeat (first | go_values | go_skip | go_guarded | go_step | go_upon)
        go_at_call 30
        refine (sgoodC _ _ _ _ _ _ (hv.kept K1) (by omega)).mono ?_
        rintro e u2 ⟨rfl, k2⟩
        rw [dC]
        have Le := Le.kept k2
        have Lc := Lc.kept k2
        have Lr := Lr.kept k2
        have K2 := K1.trans k2
        have s2 := k2.size
        clear k2 K1 c0 c1 c2
        have c0 := Lc.cell 0 rfl
        have c1 := Lc.cell 1 rfl
        have c2 := Lc.cell 2 rfl
        have r0 := Lr.cell 0 rfl
        have r1 := Lr.cell 1 rfl
        have r2 := Lr.cell 2 rfl
        have z0 := Lr.frozen 0
        have z1 := Lr.frozen 1
        have z2 := Lr.frozen 2
        dsimp only
        repeat (first | go_values | go_skip | go_guarded | go_step | go_upon)
        refine bodyPost_ret (v := .tuple #[.agg #[.int .i64 0, .int .i64 0, .slice none 0 0], .bool false]) (by simp [results, Tryd.results15, go_sem, *]) rfl ?_
        exact ⟨_, rfl, cloud_zero _ _ _, ((K2.setNew (by simp +arith) _).setNew (by simp +arith) _).setNew (by simp +arith) _⟩

      · have dM : (st == 200) = false := by simpa using hM
        have h60 := hC.2.2.1
        have hsp := hC.2.2.2
        have hfa : -1000000 ≤ fa ∧ fa ≤ 1000000 := hE.2.2.1
        have hst := hC.2.1
        dsimp only at h60 hsp hst
        have hwst : IntKind.i64.wrap (st + 1) = st + 1 := by rw [IntWalk.i64_in _ (by omega)]
        have e0 := Le.cell 0 rfl
        have e1 := Le.cell 1 rfl
        have e2 := Le.cell 2 rfl
        have e3 := Le.cell 3 rfl
        have e4 := Le.cell 4 rfl
        have e5 := Le.cell 5 rfl
        have e6 := Le.cell 6 rfl
        go_enter Tryd.func15, Tryd.ntmps15
        repeat (first | rw [← HW0.out] | go_values | go_skip | go_guarded | go_step | go_upon)
        go_at_call 29
        refine (sgoodE _ _ _ _ _ _ _ _).mono ?_
        rintro e u1 ⟨rfl, k1⟩
        rw [dE]
        have Le := Le.kept k1
        have Lc := Lc.kept k1
        have Lr := Lr.kept k1
        have K1 := K0.trans k1
        have s1 := k1.size
        clear k1 K0 e0 e1 e2 e3 e4 e5 e6
        have c0 := Lc.cell 0 rfl
        have c1 := Lc.cell 1 rfl
        have c2 := Lc.cell 2 rfl
        dsimp only
        repeat (first | go_values | go_skip | go_guarded | go_step | go_upon)
        go_at_call 30
        refine (sgoodC _ _ _ _ _ _ (hv.kept K1) (by omega)).mono ?_
        rintro e u2 ⟨rfl, k2⟩
        rw [dC]
        have Le := Le.kept k2
        have Lc := Lc.kept k2
        have Lr := Lr.kept k2
        have K2 := K1.trans k2
        have s2 := k2.size
        clear k2 K1 c0 c1 c2
        have c0 := Lc.cell 0 rfl
        have c1 := Lc.cell 1 rfl
        have c2 := Lc.cell 2 rfl
        have cl := Lc.lt
        have el := Le.lt
        dsimp only
        repeat (first | go_values | go_skip | go_guarded | go_step | go_upon)
        obtain ⟨u3, hu3⟩ : ∃ W, W = u2.alloc (.cells #[.int .i64 sd, .int .i64 (st + 1), .slice none 0 0] 27) := ⟨_, rfl⟩
        have k3 : Kept u2 u3 := by rw [hu3]; exact (But.refl _ _ _).alloc _
        have Lt : Loc u3 u2.heap.size [.int .i64 sd, .int .i64 (st + 1), .slice none 0 0] := by rw [hu3]; exact Loc.new u2 _ 27
        have Le := Le.kept k3
        have Lc := Lc.kept k3
        have Lr := Lr.kept k3
        have K3 := K2.trans k3
        rw [← hu3]
        have hs0 := HS0.out
        have HU2 : Hid (w.heap.size + 1 + 1 < u2.heap.size) := by show w.heap.size + 1 + 1 < u2.heap.size; omega
        clear hu3 k3 K2 c0 c1 c2 cl el hs0
        go_loopw [38] (fun i wr => ∃ (k m : Nat) (aq : Option Addr) (cq : Nat), k ≤ ps.length ∧ i = .int .i64 k ∧ Hid ((laterL fa (ps.take k)).length = m) ∧ m ≤ k ∧ Loc wr u2.heap.size [.int .i64 sd, .int .i64 (st + 1), .slice aq m cq] ∧ SparkO wr (u2.heap.size + 1) wr.heap.size (.slice aq m cq) (laterL fa (ps.take k)) ∧ Loc wr w.heap.size [.int .i64 x, .int .i64 y, .int .i64 ev, .int .i64 bu, .int .i64 li, .int .i64 sv, .int .i64 fa] ∧ Loc wr (w.heap.size + 1) [.int .i64 sd, .int .i64 st, .slice ao ps.length cap] ∧ Loc wr (w.heap.size + 1 + 1) [.int .i64 0, .int .i64 0, .slice none 0 0] ∧ Kept w wr) (fun i _ => ps.length - (intOf i).toNat)
        case atStart => exact ⟨0, 0, none, 0, by omega, rfl, (rfl : (laterL fa (ps.take 0)).length = 0), by omega, Lt, spark_nil _ _ _, Le, Lc, Lr, K3⟩
        case round =>
          clear Lt Le Lc Lr K3
          obtain ⟨k, m, aq, cq, hk, rfl, HML, hmk, Lt, oq, Le, Lc, Lr, KQ⟩ := hrel
          by_cases hlt : k < ps.length
          · obtain ⟨⟨a, b, c, d, l⟩, hp⟩ : ∃ p, ps[k]? = some p := ⟨_, List.getElem?_eq_getElem hlt⟩
            obtain ⟨gq, og, cap1, ee, c0, c1, c2, c3, c4⟩ := spark_get (hv.kept KQ) hp
            cases ee
            dsimp only at c0 c1 c2 c3 c4
            have hgd := good_later (hsp _ (List.mem_of_getElem? hp)) hfa
            have hpp := hsp _ (List.mem_of_getElem? hp)
            unfold SparkP at hpp
            dsimp only at hgd hpp
            have e6 := Le.cell 6 rfl
            have el := Le.lt
            have t2 := Lt.cell 2 rfl
            have tl := Lt.lt
            have HP : Hid (ps[k]? = some (a, b, c, d, l)) := hp
            have HKQ : Hid (Kept w wr) := KQ
            have HOQ : Hid (SparkO wr (u2.heap.size + 1) wr.heap.size (.slice aq m cq) (laterL fa (ps.take k))) := oq
            clear hp KQ oq
            have h1 := hgd.1.1
            have h2 := hgd.1.2
            have h3 := hgd.2.1.1
            have h4 := hgd.2.1.2
            have h5 := hgd.2.2.1.1
            have h6 := hgd.2.2.1.2
            have h7 := hgd.2.2.2.1
            have h8 := hgd.2.2.2.2
            clear hgd hpp
            cases hov : (l - 1 == 0) with
            | true =>
              have HLE : Hid (laterL fa (ps.take (k + 1)) = laterL fa (ps.take k)) := by
                show laterL fa (ps.take (k + 1)) = laterL fa (ps.take k)
                rw [take_snoc HP.out, laterL_snoc, show overB (laterS fa (a, b, c, d, l)) = true from hov]
                simp
              repeat (first | go_values | go_skip | go_guarded | go_step | go_upon)
              have KA : Kept wr (wr.alloc (.cells #[.int .i64 a, .int .i64 b, .int .i64 c, .int .i64 d, .int .i64 (l - 1)] 66)) := (But.refl _ _ _).alloc _
              refine ⟨⟨k + 1, m, aq, cq, hlt, by go_num, (by rw [HLE.out]; exact HML.out : (laterL fa (ps.take (k + 1))).length = m), by omega, Lt.kept KA, ?_, Le.kept KA, Lc.kept KA, Lr.kept KA, HKQ.out.trans KA⟩, by simp [intOf]; omega⟩
              rw [HLE.out]
              exact (HOQ.out.kept KA).low
            | false =>
              have HLE : Hid (laterL fa (ps.take (k + 1)) = laterL fa (ps.take k) ++ [(a + c, b + d, c, d - fa, l - 1)]) := by
                show laterL fa (ps.take (k + 1)) = laterL fa (ps.take k) ++ [(a + c, b + d, c, d - fa, l - 1)]
                rw [take_snoc HP.out, laterL_snoc, show overB (laterS fa (a, b, c, d, l)) = false from hov]
                rfl
              obtain ⟨i0, hi0, hz0, hz1, hz2⟩ := info_parts info_spark
              have hu2 := HU2.out
              have KA : Kept wr ((wr.alloc (.cells #[.int .i64 (a + c), .int .i64 (b + d), .int .i64 c, .int .i64 (d - fa), .int .i64 (l - 1)] 66)).alloc (.cells #[.int .i64 (a + c), .int .i64 (b + d), .int .i64 c, .int .i64 (d - fa), .int .i64 (l - 1)] 66)) := ((But.refl _ _ _).alloc _).alloc _
              have HKA : Hid (Kept wr _) := KA
              have oA : SparkO ((wr.alloc (.cells #[.int .i64 (a + c), .int .i64 (b + d), .int .i64 c, .int .i64 (d - fa), .int .i64 (l - 1)] 66)).alloc (.cells #[.int .i64 (a + c), .int .i64 (b + d), .int .i64 c, .int .i64 (d - fa), .int .i64 (l - 1)] 66)) (u2.heap.size + 1) wr.heap.size (.slice aq m cq) (laterL fa (ps.take k)) := HOQ.out.kept KA
              have HOA : Hid (SparkO ((wr.alloc (.cells #[.int .i64 (a + c), .int .i64 (b + d), .int .i64 c, .int .i64 (d - fa), .int .i64 (l - 1)] 66)).alloc (.cells #[.int .i64 (a + c), .int .i64 (b + d), .int .i64 c, .int .i64 (d - fa), .int .i64 (l - 1)] 66)) (u2.heap.size + 1) wr.heap.size (.slice aq m cq) (laterL fa (ps.take k))) := oA
              have LQ : Loc ((wr.alloc (.cells #[.int .i64 (a + c), .int .i64 (b + d), .int .i64 c, .int .i64 (d - fa), .int .i64 (l - 1)] 66)).alloc (.cells #[.int .i64 (a + c), .int .i64 (b + d), .int .i64 c, .int .i64 (d - fa), .int .i64 (l - 1)] 66)) (wr.heap.size + 1) [.int .i64 (a + c), .int .i64 (b + d), .int .i64 c, .int .i64 (d - fa), .int .i64 (l - 1)] := by have := Loc.new (wr.alloc (.cells #[.int .i64 (a + c), .int .i64 (b + d), .int .i64 c, .int .i64 (d - fa), .int .i64 (l - 1)] 66)) [.int .i64 (a + c), .int .i64 (b + d), .int .i64 c, .int .i64 (d - fa), .int .i64 (l - 1)] 66; simpa using this
              have HLQ : Hid (Loc ((wr.alloc (.cells #[.int .i64 (a + c), .int .i64 (b + d), .int .i64 c, .int .i64 (d - fa), .int .i64 (l - 1)] 66)).alloc (.cells #[.int .i64 (a + c), .int .i64 (b + d), .int .i64 c, .int .i64 (d - fa), .int .i64 (l - 1)] 66)) (wr.heap.size + 1) [.int .i64 (a + c), .int .i64 (b + d), .int .i64 c, .int .i64 (d - fa), .int .i64 (l - 1)]) := LQ
              clear KA oA LQ
              repeat (first
                | (at_builtin
                   refine wpList_append_own _ rfl _ _ 25 rfl (u2.heap.size + 1) 66 i0 (.agg #[.int .i64 0, .int .i64 0, .int .i64 0, .int .i64 0, .int .i64 0]) 5 40 Tryd.underlying25 hi0 hz0 hz1 hz2 rfl (by decide) _ _ _ rfl (own_len HML.out HOA.out) ⟨wr.heap.size + 1, 0, none⟩ 1 1 (sparkC (a + c, b + d, c, d - fa, l - 1)) rfl rfl (news1 (cs := sparkC (a + c, b + d, c, d - fa, l - 1)) HLQ.out) (one_spark _) (by unfold maxLen; omega) (by omega) (by simp; omega) ?_
                   intro v' w2 hown hgrow _
                   obtain ⟨ao3, cp3, hf3, _⟩ := own_form hown
                   subst hf3
                   have o9 := HOA.out
                   have HT3 : Hid (SparkO w2 (u2.heap.size + 1) w2.heap.size (.slice ao3 (m + 1) cp3) (laterL fa (ps.take k) ++ [(a + c, b + d, c, d - fa, l - 1)])) := (app_spark o9 HML.out hown hgrow).1
                   have L3 : Loc w2 u2.heap.size [.int .i64 sd, .int .i64 (st + 1), .slice aq m cq] := (Lt.kept HKA.out).grown hgrow (o9.not_block (Lt.kept HKA.out) (by simp))
                   have HLe3 : Hid (Loc w2 w.heap.size [.int .i64 x, .int .i64 y, .int .i64 ev, .int .i64 bu, .int .i64 li, .int .i64 sv, .int .i64 fa]) := (Le.kept HKA.out).grown hgrow (o9.not_block (Le.kept HKA.out) (by simp))
                   have HLc3 : Hid (Loc w2 (w.heap.size + 1) [.int .i64 sd, .int .i64 st, .slice (some ⟨gq, og, none⟩) ps.length cap]) := (Lc.kept HKA.out).grown hgrow (o9.not_block (Lc.kept HKA.out) (by simp))
                   have HLr3 : Hid (Loc w2 (w.heap.size + 1 + 1) [.int .i64 0, .int .i64 0, .slice none 0 0]) := (Lr.kept HKA.out).grown hgrow (o9.not_block (Lr.kept HKA.out) (by simp))
                   have HK3 : Hid (Kept w w2) := (HKQ.out.trans HKA.out).grown hgrow (by intro y hy; have := own_lt o9.1 hy; omega)
                   have HL3 : Hid (Loc w2 u2.heap.size [.int .i64 sd, .int .i64 (st + 1), .slice aq m cq]) := L3
                   have x2 := L3.cell 2 rfl
                   have y2 := L3.frozen 2
                   clear o9 L3 hown hgrow t2 c0 c1 c2 c3 c4 e6)
                | go_values | go_skip | go_guarded | go_step | go_upon)
              have B3 := (But.refl u2.heap.size (u2.heap.size + 1) w2).setCell (p := ⟨u2.heap.size, 2, none⟩) (by simp) (by simp) (.slice ao3 (m + 1) cp3)
              refine ⟨⟨k + 1, m + 1, ao3, cp3, hlt, by go_num, (by rw [HLE.out, List.length_append, HML.out]; rfl : (laterL fa (ps.take (k + 1))).length = m + 1), by omega, HL3.out.set 2 _, ?_, HLe3.out.but B3 (by omega), HLc3.out.but B3 (by omega), HLr3.out.but B3 (by omega), HK3.out.onto B3 (by omega)⟩, by simp [intOf]; omega⟩
              rw [HLE.out]
              exact (HT3.out.apart HL3.out (by simp) B3).low
          · have hke : k = ps.length := by omega
            subst hke
            have hmN : m = N := by have := HML.out; rw [List.take_length] at this; omega
            rw [List.take_length] at oq
            subst hmN
            clear hk hlt
            have HO3 : Hid (SparkO wr (u2.heap.size + 1) wr.heap.size (.slice aq m cq) (laterL fa ps)) := oq
            have HL : Hid ((laterL fa ps).length = m) := hN
            have c1 := Lc.cell 1 rfl
            have e2 := Le.cell 2 rfl
            have hev : 1 ≤ ev ∧ ev ≤ 200 := hE.2.2.2.1
            have dev : (ev == 0) = false := beq_eq_false_iff_ne.2 (by omega)
            have hwu := Lt.lt
            clear oq hN HML
            rename World => wb
            by_cases hD : st % ev = 0
            · have dD : (st % ev == 0) = true := by simpa using hD
              have HD : Hid (st % ev = 0) := hD
              clear hD
              have hbu : 0 ≤ bu ∧ bu ≤ 20 := hE.2.2.2.2.1
              have hsv : 0 ≤ sv ∧ sv ≤ 1000000 := hE.2.2.2.2.2.2
              obtain ⟨M, hMd⟩ : ∃ M, min bu.toNat (60 - m) = M := ⟨_, rfl⟩
              have HMB : Hid (manyB (x, y, ev, bu, li, sv, fa) (sd, st, ps) = M) := by
                show manyB (x, y, ev, bu, li, sv, fa) (sd, st, ps) = M
                rw [← hMd, ← HL.out]
                exact if_pos HD.out
              have hMN : m + M ≤ 60 := by omega
              have hMb : (M : Int) ≤ bu := by omega
              have hMe : (M : Int) = bu ∨ m + M = 60 := by omega
              have hsd := hC.1
              dsimp only at hsd
              have HME : Hid ((M : Int) = bu ∨ m + M = 60) := hMe
              repeat (first | go_values | go_skip | go_guarded | go_step | go_upon)
              clear hMd hMe c1 e2 Lc
              go_loopw [9] (fun i wr => ∃ (k : Nat) (aq : Option Addr) (cq : Nat), k ≤ M ∧ i = .int .i64 k ∧ Loc wr u2.heap.size [.int .i64 (seedN sd k), .int .i64 (st + 1), .slice aq (m + k) cq] ∧ SparkO wr (u2.heap.size + 1) wr.heap.size (.slice aq (m + k) cq) (laterL fa ps ++ bornL (x, y, ev, bu, li, sv, fa) sd k) ∧ Loc wr w.heap.size [.int .i64 x, .int .i64 y, .int .i64 ev, .int .i64 bu, .int .i64 li, .int .i64 sv, .int .i64 fa] ∧ Loc wr (w.heap.size + 1 + 1) [.int .i64 0, .int .i64 0, .slice none 0 0] ∧ Kept w wr) (fun i _ => M - (intOf i).toNat)
              case atStart => exact ⟨0, _, _, by omega, rfl, Lt, by simpa [bornL] using HO3.out, Le, Lr, KQ⟩
              case round =>
                clear Lt HO3 Le Lr KQ hwu
                obtain ⟨j, aq, cq, hj, rfl, Lt, oq, Le, Lr, KQ⟩ := hrel
                have hTq := hT.kept KQ
                have e3 := Le.cell 3 rfl
                have t2 := Lt.cell 2 rfl
                have hgl := Lt.lt
                by_cases hlt : j < M
                · have d1 : decide ((j : Int) < bu) = true := by simp; omega
                  have d2 : decide (((m + j : Nat) : Int) < 60) = true := by simp; omega
                  have d3 : decide ((m : Int) + (j : Int) < 60) = true := by simp; omega
                  obtain ⟨B, hB⟩ : ∃ B, bornS (x, y, ev, bu, li, sv, fa) (seedN sd j) = B := ⟨_, rfl⟩
                  have hsn := seedN_bd hsd j
                  have hc1 := coinC_bd (seedN sd j)
                  have hn1 := coinN_bd (seedN sd j)
                  have hc2 := coinC_bd (coinN (seedN sd j))
                  have hm2 := mul_bd2 hsv.1 (show sv ≤ 60000000 by omega) hc2
                  have t0 := Lt.cell 0 rfl
                  have z0 := Lt.frozen 0
                  have e5 := Le.cell 5 rfl
                  have hel := Le.lt
                  have h20 := hm2.1
                  have h21 := hm2.2
                  have h22 := hc2.1
                  have h23 := hc2.2
                  have h24 := hc1.1
                  have h25 := hc1.2
                  repeat (first | (go_at_call 39; refine (scoin _ _ (by omega) (by omega)).mono ?_; rintro e w1 ⟨rfl, hw1⟩; rw [hw1]; clear hw1 w1; dsimp only) | go_values | go_skip | go_guarded | go_step | go_upon)
                  obtain ⟨V, hV⟩ : ∃ V, shareI sv (coinC (coinN (seedN sd j))) = V := ⟨_, rfl⟩
                  rw [show sv * coinC (coinN (seedN sd j)) / 32768 = V from hV]
                  obtain ⟨U, hU⟩ : ∃ W, W = wr.setCell ⟨u2.heap.size, 0, none⟩ (.int .i64 (coinN (coinN (seedN sd j)))) := ⟨_, rfl⟩
                  have bU : But u2.heap.size (u2.heap.size + 1) wr U := by rw [hU]; exact (But.refl _ _ _).setCell (by simp) (by simp) _
                  have LtU : Loc U u2.heap.size [.int .i64 (coinN (coinN (seedN sd j))), .int .i64 (st + 1), .slice aq (m + j) cq] := by rw [hU]; exact Lt.set 0 _
                  have hu2 := HU2.out
                  have LeU := Le.but bU (by omega)
                  have LrU := Lr.but bU (by omega)
                  have oU := oq.apart Lt (by simp) bU
                  have KU : Kept w U := KQ.onto bU (by omega)
                  rw [← hU]
                  have HLL : Hid ((laterL fa ps ++ bornL (x, y, ev, bu, li, sv, fa) sd j).length = m + j) := by
                    show (laterL fa ps ++ bornL (x, y, ev, bu, li, sv, fa) sd j).length = m + j
                    rw [List.length_append, HL.out, bornL_len]
                  have HBN : Hid (bornS (x, y, ev, bu, li, sv, fa) (seedN sd j) = B) := hB
                  have HVV : Hid (shareI sv (coinC (coinN (seedN sd j))) = V) := hV
                  have HOU : Hid (SparkO U (u2.heap.size + 1) wr.heap.size (.slice aq (m + j) cq) (laterL fa ps ++ bornL (x, y, ev, bu, li, sv, fa) sd j)) := oU
                  have HKU : Hid (Kept w U) := KU
                  obtain ⟨C, hC'⟩ : ∃ C, coinC (seedN sd j) = C := ⟨_, rfl⟩
                  have HCC : Hid (coinC (seedN sd j) = C) := hC'
                  rw [hC'] at h24 h25 ⊢
                  clear hU bU Lt Le Lr oq KQ oU KU hB hV t0 z0 e5 e3 t2 hm2 hc1 hc2 hn1 hsn h20 h21 h22 h23 d1 d2 d3 hTq hC'
                  have f0 := LeU.cell 0 rfl
                  have f1 := LeU.cell 1 rfl
                  have f4 := LeU.cell 4 rfl
                  have t2 := LtU.cell 2 rfl
                  have hel := LeU.lt
                  have hgl := LtU.lt
                  have r4 := HU2.out
                  obtain ⟨Gm, hGm⟩ : ∃ G, C % 4096 = G := ⟨_, rfl⟩
                  have hCt : C.tmod 4096 = Gm := by rw [Int.tmod_eq_emod_of_nonneg h24, hGm]
                  have hg1 : 0 ≤ Gm := by omega
                  have hg2 : Gm < 4096 := by omega
                  have HGM : Hid (C % 4096 = Gm) := hGm
                  clear hGm h24 h25
                  obtain ⟨i0, hi0, hz0, hz1, hz2⟩ := info_parts info_spark
                  refine wp_region_Z (fun w' => w'.cell? ⟨w.heap.size, 0, none⟩ = some (.int .i64 x) ∧ w'.cell? ⟨w.heap.size, 1, none⟩ = some (.int .i64 y) ∧ w'.cell? ⟨w.heap.size, 4, none⟩ = some (.int .i64 li) ∧ w'.cell? ⟨u2.heap.size, 2, none⟩ = some (.slice aq (m + j) cq)) 22 (by kernel_rfl) ?_
                  have hS : (fun w' => w'.cell? ⟨w.heap.size, 0, none⟩ = some (.int .i64 x) ∧ w'.cell? ⟨w.heap.size, 1, none⟩ = some (.int .i64 y) ∧ w'.cell? ⟨w.heap.size, 4, none⟩ = some (.int .i64 li) ∧ w'.cell? ⟨u2.heap.size, 2, none⟩ = some (.slice aq (m + j) cq)) U.drew := ⟨f0, f1, f4, t2⟩
                  refine wpAnyZ_take (i := 0) (v := .pointer (some ⟨u2.heap.size, 2, none⟩)) rfl (by kernel_rfl) (by kernel_rfl) (by kernel_rfl) (by kernel_rfl) (fun _ _ _ h => h) (Or.inl ⟨by rfl, ?_⟩) hS ?_
                  · intro w' hSw; obtain ⟨s0, s1, s2, s3⟩ := hSw; go_simp
                  try simp only [Act.put]
                  refine wpAnyZ_take (i := 1) (v := .slice aq (m + j) cq) rfl (by kernel_rfl) (by kernel_rfl) (by kernel_rfl) (by kernel_rfl) (fun _ _ _ h => h) (Or.inl ⟨by rfl, ?_⟩) hS ?_
                  · intro w' hSw; obtain ⟨s0, s1, s2, s3⟩ := hSw; go_simp
                  try simp only [Act.put]
                  refine wpAnyZ_take (i := 2) (v := .pointer (some ⟨w.heap.size, 0, none⟩)) rfl (by kernel_rfl) (by kernel_rfl) (by kernel_rfl) (by kernel_rfl) (fun _ _ _ h => h) (Or.inl ⟨by rfl, ?_⟩) hS ?_
                  · intro w' hSw; obtain ⟨s0, s1, s2, s3⟩ := hSw; go_simp
                  try simp only [Act.put]
                  refine wpAnyZ_take (i := 3) (v := .int .i64 x) rfl (by kernel_rfl) (by kernel_rfl) (by kernel_rfl) (by kernel_rfl) (fun _ _ _ h => h) (Or.inl ⟨by rfl, ?_⟩) hS ?_
                  · intro w' hSw; obtain ⟨s0, s1, s2, s3⟩ := hSw; go_simp
                  try simp only [Act.put]
                  refine wpAnyZ_take (i := 4) (v := .pointer (some ⟨w.heap.size, 1, none⟩)) rfl (by kernel_rfl) (by kernel_rfl) (by kernel_rfl) (by kernel_rfl) (fun _ _ _ h => h) (Or.inl ⟨by rfl, ?_⟩) hS ?_
                  · intro w' hSw; obtain ⟨s0, s1, s2, s3⟩ := hSw; go_simp
                  try simp only [Act.put]
                  refine wpAnyZ_take (i := 5) (v := .int .i64 y) rfl (by kernel_rfl) (by kernel_rfl) (by kernel_rfl) (by kernel_rfl) (fun _ _ _ h => h) (Or.inl ⟨by rfl, ?_⟩) hS ?_
                  · intro w' hSw; obtain ⟨s0, s1, s2, s3⟩ := hSw; go_simp
                  try simp only [Act.put]
                  refine wpAnyZ_take (i := 6) (v := .int .i64 V) rfl (by kernel_rfl) (by kernel_rfl) (by kernel_rfl) (by kernel_rfl) (fun _ _ _ h => h) (Or.inl ⟨by rfl, ?_⟩) hS ?_
                  · intro w' hSw; obtain ⟨s0, s1, s2, s3⟩ := hSw; go_simp
                  try simp only [Act.put]
                  refine wpAnyZ_take (i := 7) (v := .int .i64 C) rfl (by kernel_rfl) (by kernel_rfl) (by kernel_rfl) (by kernel_rfl) (fun _ _ _ h => h) (Or.inl ⟨by rfl, ?_⟩) hS ?_
                  · intro w' hSw; obtain ⟨s0, s1, s2, s3⟩ := hSw; go_simp
                  try simp only [Act.put]
                  refine wpAnyZ_take (i := 8) (v := .int .i64 Gm) rfl (by kernel_rfl) (by kernel_rfl) (by kernel_rfl) (by kernel_rfl) (fun _ _ _ h => h) (Or.inl ⟨by rfl, ?_⟩) hS ?_
                  · intro w' hSw; obtain ⟨s0, s1, s2, s3⟩ := hSw; go_simp
                  try simp only [Act.put]
                  refine wpAnyZ_take (i := 11) (v := .int .i64 V) rfl (by kernel_rfl) (by kernel_rfl) (by kernel_rfl) (by kernel_rfl) (fun _ _ _ h => h) (Or.inl ⟨by rfl, ?_⟩) hS ?_
                  · intro w' hSw; obtain ⟨s0, s1, s2, s3⟩ := hSw; go_simp
                  try simp only [Act.put]
                  refine wpAnyZ_take (i := 12) (v := .int .i64 C) rfl (by kernel_rfl) (by kernel_rfl) (by kernel_rfl) (by kernel_rfl) (fun _ _ _ h => h) (Or.inl ⟨by rfl, ?_⟩) hS ?_
                  · intro w' hSw; obtain ⟨s0, s1, s2, s3⟩ := hSw; go_simp
                  try simp only [Act.put]
                  refine wpAnyZ_take (i := 13) (v := .int .i64 Gm) rfl (by kernel_rfl) (by kernel_rfl) (by kernel_rfl) (by kernel_rfl) (fun _ _ _ h => h) (Or.inl ⟨by rfl, ?_⟩) hS ?_
                  · intro w' hSw; obtain ⟨s0, s1, s2, s3⟩ := hSw; go_simp
                  try simp only [Act.put]
                  refine wpAnyZ_take (i := 16) (v := .pointer (some ⟨w.heap.size, 4, none⟩)) rfl (by kernel_rfl) (by kernel_rfl) (by kernel_rfl) (by kernel_rfl) (fun _ _ _ h => h) (Or.inl ⟨by rfl, ?_⟩) hS ?_
                  · intro w' hSw; obtain ⟨s0, s1, s2, s3⟩ := hSw; go_simp
                  try simp only [Act.put]
                  refine wpAnyZ_take (i := 17) (v := .int .i64 li) rfl (by kernel_rfl) (by kernel_rfl) (by kernel_rfl) (by kernel_rfl) (fun _ _ _ h => h) (Or.inl ⟨by rfl, ?_⟩) hS ?_
                  · intro w' hSw; obtain ⟨s0, s1, s2, s3⟩ := hSw; go_simp
                  try simp only [Act.put]
                  refine wpAnyZ_one (i := 9) (by kernel_rfl) rfl ?_
                  intro K hK
                  rw [if_pos (by rfl)]
                  go_simp
                  go_at_call 42
                  refine (scosK _ _ (by omega) (by omega)).mono ?_
                  rintro e y1 ⟨rfl, k⟩
                  have kwy1 : Kept U y1 := But.trans ((But.refl _ _ U).drew) k
                  have a1 := Kept.cell kwy1 f0
                  have a2 := Kept.cell kwy1 f1
                  have a3 := Kept.cell kwy1 f4
                  have a4 := Kept.cell kwy1 t2
                  clear k hS
                  dsimp only
                  refine hK.out _ _ (fun _ => ⟨a1, a2, a3, a4⟩) ?_
                  clear hK K
                  have hS : (fun w' => w'.cell? ⟨w.heap.size, 0, none⟩ = some (.int .i64 x) ∧ w'.cell? ⟨w.heap.size, 1, none⟩ = some (.int .i64 y) ∧ w'.cell? ⟨w.heap.size, 4, none⟩ = some (.int .i64 li) ∧ w'.cell? ⟨u2.heap.size, 2, none⟩ = some (.slice aq (m + j) cq)) y1 := ⟨a1, a2, a3, a4⟩
                  clear a1 a2 a3 a4
                  try simp only [Act.put]
                  refine wpAnyZ_one (i := 10) (by kernel_rfl) rfl ?_
                  intro K hK
                  rw [if_pos (by rfl)]
                  go_simp
                  go_at_call 41
                  refine (smulK _ _ _).mono ?_
                  rintro e y2 ⟨rfl, k⟩
                  have kwy2 : Kept U y2 := But.trans kwy1 k
                  have a1 := Kept.cell kwy2 f0
                  have a2 := Kept.cell kwy2 f1
                  have a3 := Kept.cell kwy2 f4
                  have a4 := Kept.cell kwy2 t2
                  clear k hS
                  dsimp only
                  refine hK.out _ _ (fun _ => ⟨a1, a2, a3, a4⟩) ?_
                  clear hK K
                  have hS : (fun w' => w'.cell? ⟨w.heap.size, 0, none⟩ = some (.int .i64 x) ∧ w'.cell? ⟨w.heap.size, 1, none⟩ = some (.int .i64 y) ∧ w'.cell? ⟨w.heap.size, 4, none⟩ = some (.int .i64 li) ∧ w'.cell? ⟨u2.heap.size, 2, none⟩ = some (.slice aq (m + j) cq)) y2 := ⟨a1, a2, a3, a4⟩
                  clear a1 a2 a3 a4
                  try simp only [Act.put]
                  refine wpAnyZ_one (i := 14) (by kernel_rfl) rfl ?_
                  intro K hK
                  rw [if_pos (by rfl)]
                  go_simp
                  go_at_call 43
                  refine (ssinK _ _ (by omega) (by omega)).mono ?_
                  rintro e y3 ⟨rfl, k⟩
                  have kwy3 : Kept U y3 := But.trans kwy2 k
                  have a1 := Kept.cell kwy3 f0
                  have a2 := Kept.cell kwy3 f1
                  have a3 := Kept.cell kwy3 f4
                  have a4 := Kept.cell kwy3 t2
                  clear k hS
                  dsimp only
                  refine hK.out _ _ (fun _ => ⟨a1, a2, a3, a4⟩) ?_
                  clear hK K
                  have hS : (fun w' => w'.cell? ⟨w.heap.size, 0, none⟩ = some (.int .i64 x) ∧ w'.cell? ⟨w.heap.size, 1, none⟩ = some (.int .i64 y) ∧ w'.cell? ⟨w.heap.size, 4, none⟩ = some (.int .i64 li) ∧ w'.cell? ⟨u2.heap.size, 2, none⟩ = some (.slice aq (m + j) cq)) y3 := ⟨a1, a2, a3, a4⟩
                  clear a1 a2 a3 a4
                  try simp only [Act.put]
                  refine wpAnyZ_one (i := 15) (by kernel_rfl) rfl ?_
                  intro K hK
                  rw [if_pos (by rfl)]
                  go_simp
                  go_at_call 41
                  refine (smulK _ _ _).mono ?_
                  rintro e y4 ⟨rfl, k⟩
                  have kwy4 : Kept U y4 := But.trans kwy3 k
                  have a1 := Kept.cell kwy4 f0
                  have a2 := Kept.cell kwy4 f1
                  have a3 := Kept.cell kwy4 f4
                  have a4 := Kept.cell kwy4 t2
                  clear k hS
                  dsimp only
                  refine hK.out _ _ (fun _ => ⟨a1, a2, a3, a4⟩) ?_
                  clear hK K
                  have hS : (fun w' => w'.cell? ⟨w.heap.size, 0, none⟩ = some (.int .i64 x) ∧ w'.cell? ⟨w.heap.size, 1, none⟩ = some (.int .i64 y) ∧ w'.cell? ⟨w.heap.size, 4, none⟩ = some (.int .i64 li) ∧ w'.cell? ⟨u2.heap.size, 2, none⟩ = some (.slice aq (m + j) cq)) y4 := ⟨a1, a2, a3, a4⟩
                  clear a1 a2 a3 a4
                  try simp only [Act.put]
                  refine wpAnyZ_take (i := 18) (v := .agg #[.int .i64 x, .int .i64 y, .int .i64 (mulM V (cosM Gm)), .int .i64 (mulM V (sinM Gm)), .int .i64 li]) rfl (by kernel_rfl) (by kernel_rfl) (by kernel_rfl) (by kernel_rfl) (fun _ _ _ h => h) (Or.inl ⟨by rfl, ?_⟩) hS ?_
                  · intro w' hSw; obtain ⟨s0, s1, s2, s3⟩ := hSw; go_simp
                  try simp only [Act.put]
                  refine wpAnyZ_one (i := 19) (by kernel_rfl) rfl ?_
                  intro K hK
                  rw [if_pos (by rfl)]
                  go_simp
                  have KA : Kept U (y4.alloc (.cells #[.int .i64 x, .int .i64 y, .int .i64 (mulM V (cosM Gm)), .int .i64 (mulM V (sinM Gm)), .int .i64 li] 66)) := kwy4.alloc _
                  refine hK.out _ _ (fun _ => ⟨Kept.cell KA f0, Kept.cell KA f1, Kept.cell KA f4, Kept.cell KA t2⟩) ?_
                  clear hK K hS
                  try simp only [Act.put]
                  have hn4 := kwy4.size
                  refine wpAnyZ_one (i := 20) (by kernel_rfl) rfl ?_
                  intro K hK
                  refine step_append_at rfl (.tmp 111) (.tmp 129) 25 rfl (u2.heap.size + 1) 66 i0 (.agg #[.int .i64 0, .int .i64 0, .int .i64 0, .int .i64 0, .int .i64 0]) 5 40 Tryd.underlying25 hi0 hz0 hz1 hz2 rfl (by decide) (.slice aq (m + j) cq) (m + j) ((laterL fa ps ++ bornL (x, y, ev, bu, li, sv, fa) sd j).flatMap sparkC) (by simp [Act.eval]) (own_len HLL.out (SparkO.kept HOU.out KA)) ⟨y4.heap.size, 0, none⟩ 1 1 (sparkC (x, y, mulM V (cosM Gm), mulM V (sinM Gm), li)) (by simp [Act.eval]) rfl (news1 (Loc.new y4 (sparkC (x, y, mulM V (cosM Gm), mulM V (sinM Gm), li)) 66)) (one_spark _) (by unfold maxLen; omega) (by omega) (by simp; omega) ?_
                  intro v3 w3 hown hgrow hob
                  obtain ⟨ao3, cp3, hf3, _⟩ := own_form hown
                  subst hf3
                  have o9 := HOU.out.kept KA
                  have HT3 : Hid (SparkO w3 (u2.heap.size + 1) w3.heap.size (.slice ao3 (m + j + 1) cp3) (laterL fa ps ++ bornL (x, y, ev, bu, li, sv, fa) sd j ++ [(x, y, mulM V (cosM Gm), mulM V (sinM Gm), li)])) := (app_spark o9 HLL.out hown hgrow).1
                  have L3 : Loc w3 u2.heap.size [.int .i64 (coinN (coinN (seedN sd j))), .int .i64 (st + 1), .slice aq (m + j) cq] := (LtU.kept KA).grown hgrow (o9.not_block (LtU.kept KA) (by simp))
                  have le3 : Loc w3 w.heap.size [.int .i64 x, .int .i64 y, .int .i64 ev, .int .i64 bu, .int .i64 li, .int .i64 sv, .int .i64 fa] := (LeU.kept KA).grown hgrow (o9.not_block (LeU.kept KA) (by simp))
                  have HLr3 : Hid (Loc w3 (w.heap.size + 1 + 1) [.int .i64 0, .int .i64 0, .slice none 0 0]) := (LrU.kept KA).grown hgrow (o9.not_block (LrU.kept KA) (by simp))
                  have HK3 : Hid (Kept w w3) := (HKU.out.trans KA).grown hgrow (by intro zz hzz; have := own_lt o9.1 hzz; omega)
                  have HL3 : Hid (Loc w3 u2.heap.size [.int .i64 (coinN (coinN (seedN sd j))), .int .i64 (st + 1), .slice aq (m + j) cq]) := L3
                  have HLe3 : Hid (Loc w3 w.heap.size [.int .i64 x, .int .i64 y, .int .i64 ev, .int .i64 bu, .int .i64 li, .int .i64 sv, .int .i64 fa]) := le3
                  have a1 := le3.cell 0 rfl
                  have a2 := le3.cell 1 rfl
                  have a3 := le3.cell 4 rfl
                  have a4 := L3.cell 2 rfl
                  have y9 := L3.frozen 2
                  clear o9 KA L3 le3 hown hgrow hob kwy1 kwy2 kwy3 kwy4
                  refine hK.out _ _ (fun _ => ⟨a1, a2, a3, a4⟩) ?_
                  clear hK K
                  have hS : (fun w' => w'.cell? ⟨w.heap.size, 0, none⟩ = some (.int .i64 x) ∧ w'.cell? ⟨w.heap.size, 1, none⟩ = some (.int .i64 y) ∧ w'.cell? ⟨w.heap.size, 4, none⟩ = some (.int .i64 li) ∧ w'.cell? ⟨u2.heap.size, 2, none⟩ = some (.slice aq (m + j) cq)) w3 := ⟨a1, a2, a3, a4⟩
                  try simp only [Act.put]
                  refine wpAnyZ_take (i := 21) (v := .pointer (some ⟨u2.heap.size, 2, none⟩)) rfl (by kernel_rfl) (by kernel_rfl) (by kernel_rfl) (by kernel_rfl) (fun _ _ _ h => h) (Or.inl ⟨by rfl, ?_⟩) hS ?_
                  · intro w' hSw; obtain ⟨s0, s1, s2, s3⟩ := hSw; go_simp
                  try simp only [Act.put]
                  refine wpAnyZ_one (i := 22) (by kernel_rfl) rfl ?_
                  intro K hK
                  rw [if_pos (by rfl)]
                  go_simp
                  refine hK.out _ _ (fun h => absurd rfl h) ?_
                  clear hK K hS
                  refine wpAnyZ_done (by kernel_rfl) ?_ _
                  try simp only [Act.put]
                  repeat (first | go_values | go_skip | go_guarded | go_step | go_upon)
                  have B3 := (But.refl u2.heap.size (u2.heap.size + 1) w3).setCell (p := ⟨u2.heap.size, 2, none⟩) (by simp) (by simp) (.slice ao3 (m + j + 1) cp3)
                  refine ⟨⟨j + 1, ao3, cp3, hlt, by go_num, HL3.out.set 2 _, ?_, HLe3.out.but B3 (by omega), HLr3.out.but B3 (by omega), HK3.out.onto B3 (by omega)⟩, by simp [intOf]; omega⟩
                  have hbb : bornS (x, y, ev, bu, li, sv, fa) (seedN sd j) = (x, y, mulM V (cosM Gm), mulM V (sinM Gm), li) := by have h1 := HVV.out; have h2 := HGM.out; have h3 := HCC.out; subst h3 h1 h2; rfl
                  rw [bornL_succ, hbb, ← List.append_assoc]
                  exact (HT3.out.apart HL3.out (by simp) B3).low
                · have hje : j = M := by omega
                  subst hje
                  have HLL : Hid ((laterL fa ps ++ bornL (x, y, ev, bu, li, sv, fa) sd j).length = m + j) := by
                    show (laterL fa ps ++ bornL (x, y, ev, bu, li, sv, fa) sd j).length = m + j
                    rw [List.length_append, HL.out, bornL_len]
                  have HNC : Hid (newC (x, y, ev, bu, li, sv, fa) (sd, st, ps) = (seedN sd j, st + 1, laterL fa ps ++ bornL (x, y, ev, bu, li, sv, fa) sd j)) := by
                    show newC (x, y, ev, bu, li, sv, fa) (sd, st, ps) = (seedN sd j, st + 1, laterL fa ps ++ bornL (x, y, ev, bu, li, sv, fa) sd j)
                    unfold newC
                    rw [HMB.out]
                  have hu2 := HU2.out
                  by_cases hb : (j : Int) = bu
                  · have d1 : decide ((j : Int) < bu) = false := by simp; omega
                    have HB : Hid _ := hb
                    clear hb Le hTq
                    have t0 := Lt.cell 0 rfl
                    have t1 := Lt.cell 1 rfl
                    have t2 := Lt.cell 2 rfl
                    repeat (first | go_values | go_skip | go_guarded | go_step | go_upon)
                    go_at_call 30
                    have hgc := sgoodC (seedN sd j) (st + 1) (laterL fa ps ++ bornL (x, y, ev, bu, li, sv, fa) sd j) aq cq wr (by rw [HLL.out]; exact oq.at) (by rw [HLL.out]; omega)
                    rw [HLL.out] at hgc
                    refine hgc.mono ?_
                    rintro e v1 ⟨rfl, kv⟩
                    clear hgc t0 t1 t2
                    have Lt := Lt.kept kv
                    have Lr := Lr.kept kv
                    have oq := oq.kept kv
                    have KV := KQ.trans kv
                    have rl := Lr.lt
                    have HKV : Hid (Kept w v1) := KV
                    have HO : Hid (SparkO v1 u2.heap.size v1.heap.size (.slice aq (m + j) cq) (laterL fa ps ++ bornL (x, y, ev, bu, li, sv, fa) sd j)) := (oq.mono (by omega) (Nat.le_refl _)).low
                    clear KV kv oq KQ
                    have r0 := Lr.cell 0 rfl
                    have r1 := Lr.cell 1 rfl
                    have r2 := Lr.cell 2 rfl
                    have z0 := Lr.frozen 0
                    have z1 := Lr.frozen 1
                    have z2 := Lr.frozen 2
                    have t0 := Lt.cell 0 rfl
                    have t1 := Lt.cell 1 rfl
                    have t2 := Lt.cell 2 rfl
                    by_cases hF : CloudP (newC (x, y, ev, bu, li, sv, fa) (sd, st, ps))
                    · have HA : Hid (stepA (x, y, ev, bu, li, sv, fa) (sd, st, ps) = ((seedN sd j, st + 1, laterL fa ps ++ bornL (x, y, ev, bu, li, sv, fa) sd j), true)) := (stepA_yes ⟨hE, hC, hM⟩ hF).trans (by rw [HNC.out])
                      rw [HNC.out] at hF
                      rw [decide_eq_true hF]
                      dsimp only
                      clear hE hC hM hF hsp hst hfa h60
                      repeat (first | go_values | go_skip | go_guarded | go_step | go_upon)
                      refine bodyPost_ret (v := .tuple #[.agg #[.int .i64 (seedN sd j), .int .i64 (st + 1), .slice aq (m + j) cq], .bool true]) (by simp [results, Tryd.results15, go_sem, *]) rfl ?_
                      rw [HA.out]
                      have hs0 := HS0.out
                      have BB := (((But.refl (w.heap.size + 1 + 1) (w.heap.size + 1 + 1 + 1) v1).setCell (p := ⟨w.heap.size + 1 + 1, 0, none⟩) (by simp) (by simp) (.int .i64 (seedN sd j))).setCell (p := ⟨w.heap.size + 1 + 1, 1, none⟩) (by simp) (by simp) (.int .i64 (st + 1))).setCell (p := ⟨w.heap.size + 1 + 1, 2, none⟩) (by simp) (by simp) (.slice aq (m + j) cq)
                      exact ⟨_, rfl, ⟨_, rfl, ((HO.out.but BB (by omega)).mono (by omega) BB.size).low⟩, HKV.out.onto BB (by omega)⟩
                    · have HA : Hid (stepA (x, y, ev, bu, li, sv, fa) (sd, st, ps) = (c0, false)) := stepA_bad hF
                      rw [HNC.out] at hF
                      rw [decide_eq_false hF]
                      dsimp only
                      clear hE hC hM hF hsp hst hfa h60
                      repeat (first | go_values | go_skip | go_guarded | go_step | go_upon)
                      refine bodyPost_ret (v := .tuple #[.agg #[.int .i64 0, .int .i64 0, .slice none 0 0], .bool false]) (by simp [results, Tryd.results15, go_sem, *]) rfl ?_
                      rw [HA.out]
                      exact ⟨_, rfl, cloud_zero _ _ _, ((HKV.out.setNew (by simp +arith) _).setNew (by simp +arith) _).setNew (by simp +arith) _⟩

                  · have d1 : decide ((j : Int) < bu) = true := by simp; omega
                    have h60' := HME.out.resolve_left hb
                    have d2 : decide (((m + j : Nat) : Int) < 60) = false := by simp; omega
                    have d3 : decide ((m : Int) + (j : Int) < 60) = false := by simp; omega
                    have HB : Hid _ := hb
                    have H6 : Hid _ := h60'
                    clear hb Le hTq h60'
                    have t0 := Lt.cell 0 rfl
                    have t1 := Lt.cell 1 rfl
                    have t2 := Lt.cell 2 rfl
                    repeat (first | go_values | go_skip | go_guarded | go_step | go_upon)
                    go_at_call 30
                    have hgc := sgoodC (seedN sd j) (st + 1) (laterL fa ps ++ bornL (x, y, ev, bu, li, sv, fa) sd j) aq cq wr (by rw [HLL.out]; exact oq.at) (by rw [HLL.out]; omega)
                    rw [HLL.out] at hgc
                    refine hgc.mono ?_
                    rintro e v1 ⟨rfl, kv⟩
                    clear hgc t0 t1 t2
                    have Lt := Lt.kept kv
                    have Lr := Lr.kept kv
                    have oq := oq.kept kv
                    have KV := KQ.trans kv
                    have rl := Lr.lt
                    have HKV : Hid (Kept w v1) := KV
                    have HO : Hid (SparkO v1 u2.heap.size v1.heap.size (.slice aq (m + j) cq) (laterL fa ps ++ bornL (x, y, ev, bu, li, sv, fa) sd j)) := (oq.mono (by omega) (Nat.le_refl _)).low
                    clear KV kv oq KQ
                    have r0 := Lr.cell 0 rfl
                    have r1 := Lr.cell 1 rfl
                    have r2 := Lr.cell 2 rfl
                    have z0 := Lr.frozen 0
                    have z1 := Lr.frozen 1
                    have z2 := Lr.frozen 2
                    have t0 := Lt.cell 0 rfl
                    have t1 := Lt.cell 1 rfl
                    have t2 := Lt.cell 2 rfl
                    by_cases hF : CloudP (newC (x, y, ev, bu, li, sv, fa) (sd, st, ps))
                    · have HA : Hid (stepA (x, y, ev, bu, li, sv, fa) (sd, st, ps) = ((seedN sd j, st + 1, laterL fa ps ++ bornL (x, y, ev, bu, li, sv, fa) sd j), true)) := (stepA_yes ⟨hE, hC, hM⟩ hF).trans (by rw [HNC.out])
                      rw [HNC.out] at hF
                      rw [decide_eq_true hF]
                      dsimp only
                      clear hE hC hM hF hsp hst hfa h60
                      repeat (first | go_values | go_skip | go_guarded | go_step | go_upon)
                      refine bodyPost_ret (v := .tuple #[.agg #[.int .i64 (seedN sd j), .int .i64 (st + 1), .slice aq (m + j) cq], .bool true]) (by simp [results, Tryd.results15, go_sem, *]) rfl ?_
                      rw [HA.out]
                      have hs0 := HS0.out
                      have BB := (((But.refl (w.heap.size + 1 + 1) (w.heap.size + 1 + 1 + 1) v1).setCell (p := ⟨w.heap.size + 1 + 1, 0, none⟩) (by simp) (by simp) (.int .i64 (seedN sd j))).setCell (p := ⟨w.heap.size + 1 + 1, 1, none⟩) (by simp) (by simp) (.int .i64 (st + 1))).setCell (p := ⟨w.heap.size + 1 + 1, 2, none⟩) (by simp) (by simp) (.slice aq (m + j) cq)
                      exact ⟨_, rfl, ⟨_, rfl, ((HO.out.but BB (by omega)).mono (by omega) BB.size).low⟩, HKV.out.onto BB (by omega)⟩
                    · have HA : Hid (stepA (x, y, ev, bu, li, sv, fa) (sd, st, ps) = (c0, false)) := stepA_bad hF
                      rw [HNC.out] at hF
                      rw [decide_eq_false hF]
                      dsimp only
                      clear hE hC hM hF hsp hst hfa h60
                      repeat (first | go_values | go_skip | go_guarded | go_step | go_upon)
                      refine bodyPost_ret (v := .tuple #[.agg #[.int .i64 0, .int .i64 0, .slice none 0 0], .bool false]) (by simp [results, Tryd.results15, go_sem, *]) rfl ?_
                      rw [HA.out]
                      exact ⟨_, rfl, cloud_zero _ _ _, ((HKV.out.setNew (by simp +arith) _).setNew (by simp +arith) _).setNew (by simp +arith) _⟩

            · have dD : (st % ev == 0) = false := by simpa using hD
              have HNC : Hid (newC (x, y, ev, bu, li, sv, fa) (sd, st, ps) = (sd, st + 1, laterL fa ps)) := by
                show newC (x, y, ev, bu, li, sv, fa) (sd, st, ps) = (sd, st + 1, laterL fa ps)
                have : manyB (x, y, ev, bu, li, sv, fa) (sd, st, ps) = 0 := if_neg hD
                simp [newC, this, seedN, bornL]
              have HLL : Hid ((laterL fa ps).length = m) := HL.out
              have hu2 := HU2.out
              have o3 := HO3.out
              clear hD HO3
              have t0 := Lt.cell 0 rfl
              have t1 := Lt.cell 1 rfl
              have t2 := Lt.cell 2 rfl
              repeat (first | go_values | go_skip | go_guarded | go_step | go_upon)
              go_at_call 30
              have hgc := sgoodC (sd) (st + 1) (laterL fa ps) aq cq wb (by rw [HLL.out]; exact o3.at) (by rw [HLL.out]; omega)
              rw [HLL.out] at hgc
              refine hgc.mono ?_
              rintro e v1 ⟨rfl, kv⟩
              clear hgc t0 t1 t2
              have Lt := Lt.kept kv
              have Lr := Lr.kept kv
              have o3 := o3.kept kv
              have KV := KQ.trans kv
              have rl := Lr.lt
              have HKV : Hid (Kept w v1) := KV
              have HO : Hid (SparkO v1 u2.heap.size v1.heap.size (.slice aq (m) cq) (laterL fa ps)) := (o3.mono (by omega) (Nat.le_refl _)).low
              clear KV kv o3 KQ
              have r0 := Lr.cell 0 rfl
              have r1 := Lr.cell 1 rfl
              have r2 := Lr.cell 2 rfl
              have z0 := Lr.frozen 0
              have z1 := Lr.frozen 1
              have z2 := Lr.frozen 2
              have t0 := Lt.cell 0 rfl
              have t1 := Lt.cell 1 rfl
              have t2 := Lt.cell 2 rfl
              by_cases hF : CloudP (newC (x, y, ev, bu, li, sv, fa) (sd, st, ps))
              · have HA : Hid (stepA (x, y, ev, bu, li, sv, fa) (sd, st, ps) = ((sd, st + 1, laterL fa ps), true)) := (stepA_yes ⟨hE, hC, hM⟩ hF).trans (by rw [HNC.out])
                rw [HNC.out] at hF
                rw [decide_eq_true hF]
                dsimp only
                clear hE hC hM hF hsp hst hfa h60
                repeat (first | go_values | go_skip | go_guarded | go_step | go_upon)
                refine bodyPost_ret (v := .tuple #[.agg #[.int .i64 (sd), .int .i64 (st + 1), .slice aq (m) cq], .bool true]) (by simp [results, Tryd.results15, go_sem, *]) rfl ?_
                rw [HA.out]
                have hs0 := HS0.out
                have BB := (((But.refl (w.heap.size + 1 + 1) (w.heap.size + 1 + 1 + 1) v1).setCell (p := ⟨w.heap.size + 1 + 1, 0, none⟩) (by simp) (by simp) (.int .i64 (sd))).setCell (p := ⟨w.heap.size + 1 + 1, 1, none⟩) (by simp) (by simp) (.int .i64 (st + 1))).setCell (p := ⟨w.heap.size + 1 + 1, 2, none⟩) (by simp) (by simp) (.slice aq (m) cq)
                exact ⟨_, rfl, ⟨_, rfl, ((HO.out.but BB (by omega)).mono (by omega) BB.size).low⟩, HKV.out.onto BB (by omega)⟩
              · have HA : Hid (stepA (x, y, ev, bu, li, sv, fa) (sd, st, ps) = (c0, false)) := stepA_bad hF
                rw [HNC.out] at hF
                rw [decide_eq_false hF]
                dsimp only
                clear hE hC hM hF hsp hst hfa h60
                repeat (first | go_values | go_skip | go_guarded | go_step | go_upon)
                refine bodyPost_ret (v := .tuple #[.agg #[.int .i64 0, .int .i64 0, .slice none 0 0], .bool false]) (by simp [results, Tryd.results15, go_sem, *]) rfl ?_
                rw [HA.out]
                exact ⟨_, rfl, cloud_zero _ _ _, ((HKV.out.setNew (by simp +arith) _).setNew (by simp +arith) _).setNew (by simp +arith) _⟩

    · rw [stepA_no (fun h => hC h.2.1)]
      have dC : decide (CloudP (sd, st, ps)) = false := decide_eq_false hC
      have e0 := Le.cell 0 rfl
      have e1 := Le.cell 1 rfl
      have e2 := Le.cell 2 rfl
      have e3 := Le.cell 3 rfl
      have e4 := Le.cell 4 rfl
      have e5 := Le.cell 5 rfl
      have e6 := Le.cell 6 rfl
      go_enter Tryd.func15, Tryd.ntmps15
      repeat (first | rw [← HW0.out] | go_values | go_skip | go_guarded | go_step | go_upon)
      go_at_call 29
      refine (sgoodE _ _ _ _ _ _ _ _).mono ?_
      rintro e u1 ⟨rfl, k1⟩
      rw [dE]
      have Le := Le.kept k1
      have Lc := Lc.kept k1
      have Lr := Lr.kept k1
      have K1 := K0.trans k1
      have s1 := k1.size
      clear k1 K0 e0 e1 e2 e3 e4 e5 e6
      have c0 := Lc.cell 0 rfl
      have c1 := Lc.cell 1 rfl
      have c2 := Lc.cell 2 rfl
      dsimp only
      repeat (first | go_values | go_skip | go_guarded | go_step | go_upon)
      go_at_call 30
      refine (sgoodC _ _ _ _ _ _ (hv.kept K1) (by omega)).mono ?_
      rintro e u2 ⟨rfl, k2⟩
      rw [dC]
      have Le := Le.kept k2
      have Lc := Lc.kept k2
      have Lr := Lr.kept k2
      have K2 := K1.trans k2
      have s2 := k2.size
      clear k2 K1 c0 c1 c2
      have c0 := Lc.cell 0 rfl
      have c1 := Lc.cell 1 rfl
      have c2 := Lc.cell 2 rfl
      have r0 := Lr.cell 0 rfl
      have r1 := Lr.cell 1 rfl
      have r2 := Lr.cell 2 rfl
      have z0 := Lr.frozen 0
      have z1 := Lr.frozen 1
      have z2 := Lr.frozen 2
      dsimp only
      repeat (first | go_values | go_skip | go_guarded | go_step | go_upon)
      refine bodyPost_ret (v := .tuple #[.agg #[.int .i64 0, .int .i64 0, .slice none 0 0], .bool false]) (by simp [results, Tryd.results15, go_sem, *]) rfl ?_
      exact ⟨_, rfl, cloud_zero _ _ _, ((K2.setNew (by simp +arith) _).setNew (by simp +arith) _).setNew (by simp +arith) _⟩

  · rw [stepA_no (fun h => hE h.1)]
    have dE : decide (EmitP x y ev bu li sv fa) = false := decide_eq_false hE
    have e0 := Le.cell 0 rfl
    have e1 := Le.cell 1 rfl
    have e2 := Le.cell 2 rfl
    have e3 := Le.cell 3 rfl
    have e4 := Le.cell 4 rfl
    have e5 := Le.cell 5 rfl
    have e6 := Le.cell 6 rfl
    go_enter Tryd.func15, Tryd.ntmps15
    repeat (first | rw [← HW0.out] | go_values | go_skip | go_guarded | go_step | go_upon)
    go_at_call 29
    refine (sgoodE _ _ _ _ _ _ _ _).mono ?_
    rintro e u1 ⟨rfl, k1⟩
    rw [dE]
    have Le := Le.kept k1
    have Lc := Lc.kept k1
    have Lr := Lr.kept k1
    have K1 := K0.trans k1
    have s1 := k1.size
    clear k1 K0 e0 e1 e2 e3 e4 e5 e6
    have c0 := Lc.cell 0 rfl
    have c1 := Lc.cell 1 rfl
    have c2 := Lc.cell 2 rfl
    have r0 := Lr.cell 0 rfl
    have r1 := Lr.cell 1 rfl
    have r2 := Lr.cell 2 rfl
    have z0 := Lr.frozen 0
    have z1 := Lr.frozen 1
    have z2 := Lr.frozen 2
    dsimp only
    repeat (first | go_values | go_skip | go_guarded | go_step | go_upon)
    refine bodyPost_ret (v := .tuple #[.agg #[.int .i64 0, .int .i64 0, .slice none 0 0], .bool false]) (by simp [results, Tryd.results15, go_sem, *]) rfl ?_
    exact ⟨_, rfl, cloud_zero _ _ _, ((K1.setNew (by simp +arith) _).setNew (by simp +arith) _).setNew (by simp +arith) _⟩


end Go.Proofs.YtpeiblodefaajaaDoor
