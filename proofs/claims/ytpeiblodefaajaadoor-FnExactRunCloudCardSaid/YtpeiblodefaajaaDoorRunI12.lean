/-
  What the program's RunCloud answers.
-/
import Derived.Test.YtpeiblodefaajaaDoorStepI12
namespace Go.Proofs.YtpeiblodefaajaaDoor
open Go.ChangeShapes Go.WideShapes Go.ChangeAt Go.RowKit

set_option maxRecDepth 100000
set_option linter.unusedVariables false
/-- What is left to be run. -/
def LeftR (e : EmitterD) (R : CloudD × Bool) (K d : Nat) (cc : CloudD) (gb : Bool) : Prop := d ≤ K ∧ (gb = true → runN e (K - d) cc = R) ∧ (gb = false → R = (cc, false))
theorem LeftR.next {e : EmitterD} {R : CloudD × Bool} {K d : Nat} {cc : CloudD} (h : LeftR e R K d cc true) (hd : d < K) : LeftR e R K (d + 1) (stepA e cc).1 (stepA e cc).2 := by
  have h1 := h.2.1 rfl
  rw [show K - d = (K - (d + 1)) + 1 by omega, runN] at h1
  refine ⟨hd, fun hb => ?_, fun hb => ?_⟩
  · rw [if_pos hb] at h1; exact h1
  · rw [if_neg (by rw [hb]; simp)] at h1
    have : (stepA e cc).1 = c0 := by
      unfold stepA at hb ⊢
      split at hb
      · simp at hb
      · rename_i hn; rw [if_neg hn]
    rw [this, ← h1]
theorem wp_cut2N {P : Program} {C : Code} {Q : Exit → Act → World → Prop} {a : Act} {w : World} {A : Nat → Nat → Act} (F : Nat → Nat → World → Prop)
    (h : C.wp P (fun x a' w' => x = .normal ∧ ∃ g G, a' = A g G ∧ F g G w') a w) (hq : ∀ g G w', F g G w' → Q .normal (A g G) w') : C.wp P Q a w :=
  wp_mono h fun e a' w' ⟨he, g, G, ha, hF⟩ => by subst he; subst ha; exact hq g G w' hF
set_option maxHeartbeats 8000000 in
theorem irun (x y ev bu li sv fa sd st kk : Int) (ps : List SparkD) (ao : Option Addr) (cap : Nat) (w : World) (hT : Tab w) (hv : SparkAt w (.slice ao ps.length cap) ps) (hn : ps.length ≤ 1048576) :
    Calls Tryd.prog 8 #[.agg #[.int .i64 x, .int .i64 y, .int .i64 ev, .int .i64 bu, .int .i64 li, .int .i64 sv, .int .i64 fa], .agg #[.int .i64 sd, .int .i64 st, .slice ao ps.length cap], .int .i64 kk] w fun r w' => ∃ v', r = .returned (.tuple #[v', .bool (runA (x, y, ev, bu, li, sv, fa) (sd, st, ps) kk).2]) ∧ CloudO w' w.heap.size w'.heap.size v' (runA (x, y, ev, bu, li, sv, fa) (sd, st, ps) kk).1 ∧ Kept w w' := by
  have h00 := hT.size
  obtain ⟨W0, hW0⟩ : ∃ W, W = ((w.alloc (.cells #[.int .i64 x, .int .i64 y, .int .i64 ev, .int .i64 bu, .int .i64 li, .int .i64 sv, .int .i64 fa] 24)).alloc (.cells #[.int .i64 sd, .int .i64 st, .slice ao ps.length cap] 27)).alloc (.cells #[.int .i64 0, .int .i64 0, .slice none 0 0] 27) := ⟨_, rfl⟩
  have K0 : Kept w W0 := by rw [hW0]; exact (((But.refl _ _ _).alloc _).alloc _).alloc _
  have Le : Loc W0 w.heap.size [.int .i64 x, .int .i64 y, .int .i64 ev, .int .i64 bu, .int .i64 li, .int .i64 sv, .int .i64 fa] := by rw [hW0]; exact ((Loc.new w _ 24).alloc _).alloc _
  have Lc : Loc W0 (w.heap.size + 1) [.int .i64 sd, .int .i64 st, .slice ao ps.length cap] := by rw [hW0]; have := (Loc.new (w.alloc (.cells #[.int .i64 x, .int .i64 y, .int .i64 ev, .int .i64 bu, .int .i64 li, .int .i64 sv, .int .i64 fa] 24)) [.int .i64 sd, .int .i64 st, .slice ao ps.length cap] 27).alloc (.cells #[.int .i64 0, .int .i64 0, .slice none 0 0] 27); simpa using this
  have Lr : Loc W0 (w.heap.size + 1 + 1) [.int .i64 0, .int .i64 0, .slice none 0 0] := by rw [hW0]; have := Loc.new ((w.alloc (.cells #[.int .i64 x, .int .i64 y, .int .i64 ev, .int .i64 bu, .int .i64 li, .int .i64 sv, .int .i64 fa] 24)).alloc (.cells #[.int .i64 sd, .int .i64 st, .slice ao ps.length cap] 27)) [.int .i64 0, .int .i64 0, .slice none 0 0] 27; simpa using this
  have s0 : W0.heap.size = w.heap.size + 1 + 1 + 1 := by rw [hW0]; simp
  have HW0 : Hid (W0 = _) := hW0
  have HS0 : Hid (W0.heap.size = w.heap.size + 1 + 1 + 1) := s0
  clear hW0 s0
  by_cases hE : EP (x, y, ev, bu, li, sv, fa)
  · have dE : decide (EmitP x y ev bu li sv fa) = true := decide_eq_true hE
    by_cases hC : CloudP (sd, st, ps)
    · have dC : decide (CloudP (sd, st, ps)) = true := decide_eq_true hC
      by_cases hK1 : kk < 0
      · rw [runA_no (fun h => by have := h.2.2.1; omega)]
        have HK1 : Hid _ := hK1
        have dk : decide (kk < 0) = true := by simpa using hK1
        clear hK1
        have e0 := Le.cell 0 rfl
        have e1 := Le.cell 1 rfl
        have e2 := Le.cell 2 rfl
        have e3 := Le.cell 3 rfl
        have e4 := Le.cell 4 rfl
        have e5 := Le.cell 5 rfl
        have e6 := Le.cell 6 rfl
        go_enter Tryd.func8, Tryd.ntmps8
        repeat (first | rw [← HW0.out] | go_values | go_skip | go_guarded | go_step | go_upon)
        go_at_call 26
        refine (igoodE _ _ _ _ _ _ _ _).mono ?_
        rintro e u1 ⟨rfl, k1⟩
        rw [dE]
        have Le := Le.kept k1
        have Lc := Lc.kept k1
        have Lr := Lr.kept k1
        have K1 := K0.trans k1
        have s1 := k1.size
        clear k1 K0 e0 e1 e2 e3 e4 e5 e6
        have c0 := Lc.cell 0 rfl
        have c1 := Lc.cell 1 rfl
        have c2 := Lc.cell 2 rfl
        dsimp only
        repeat (first | go_values | go_skip | go_guarded | go_step | go_upon)
        go_at_call 27
        refine (igoodC _ _ _ _ _ _ (hv.kept K1) (by omega)).mono ?_
        rintro e u2 ⟨rfl, k2⟩
        rw [dC]
        have Le := Le.kept k2
        have Lc := Lc.kept k2
        have Lr := Lr.kept k2
        have K2 := K1.trans k2
        have s2 := k2.size
        clear k2 K1 c0 c1 c2
        have c0 := Lc.cell 0 rfl
        have c1 := Lc.cell 1 rfl
        have c2 := Lc.cell 2 rfl
        have r0 := Lr.cell 0 rfl
        have r1 := Lr.cell 1 rfl
        have r2 := Lr.cell 2 rfl
        have z0 := Lr.frozen 0
        have z1 := Lr.frozen 1
        have z2 := Lr.frozen 2
        dsimp only
        repeat (first | go_values | go_skip | go_guarded | go_step | go_upon)
        refine bodyPost_ret (v := .tuple #[.agg #[.int .i64 0, .int .i64 0, .slice none 0 0], .bool false]) (by simp [results, Tryd.results8, go_sem, *]) rfl ?_
        exact ⟨_, rfl, cloud_zero _ _ _, ((K2.setNew (by simp +arith) _).setNew (by simp +arith) _).setNew (by simp +arith) _⟩

      · have dk : decide (kk < 0) = false := by simp; omega
        by_cases hK2 : 200 < kk
        · rw [runA_no (fun h => by have := h.2.2.2; omega)]
          have dk2 : decide (200 < kk) = true := by simpa using hK2
          have e0 := Le.cell 0 rfl
          have e1 := Le.cell 1 rfl
          have e2 := Le.cell 2 rfl
          have e3 := Le.cell 3 rfl
          have e4 := Le.cell 4 rfl
          have e5 := Le.cell 5 rfl
          have e6 := Le.cell 6 rfl
          go_enter Tryd.func8, Tryd.ntmps8
          repeat (first | rw [← HW0.out] | go_values | go_skip | go_guarded | go_step | go_upon)
          go_at_call 26
          refine (igoodE _ _ _ _ _ _ _ _).mono ?_
          rintro e u1 ⟨rfl, k1⟩
          rw [dE]
          have Le := Le.kept k1
          have Lc := Lc.kept k1
          have Lr := Lr.kept k1
          have K1 := K0.trans k1
          have s1 := k1.size
          clear k1 K0 e0 e1 e2 e3 e4 e5 e6
          have c0 := Lc.cell 0 rfl
          have c1 := Lc.cell 1 rfl
          have c2 := Lc.cell 2 rfl
          dsimp only
          repeat (first | go_values | go_skip | go_guarded | go_step | go_upon)
          go_at_call 27
          refine (igoodC _ _ _ _ _ _ (hv.kept K1) (by omega)).mono ?_
          rintro e u2 ⟨rfl, k2⟩
          rw [dC]
          have Le := Le.kept k2
          have Lc := Lc.kept k2
          have Lr := Lr.kept k2
          have K2 := K1.trans k2
          have s2 := k2.size
          clear k2 K1 c0 c1 c2
          have c0 := Lc.cell 0 rfl
          have c1 := Lc.cell 1 rfl
          have c2 := Lc.cell 2 rfl
          have r0 := Lr.cell 0 rfl
          have r1 := Lr.cell 1 rfl
          have r2 := Lr.cell 2 rfl
          have z0 := Lr.frozen 0
          have z1 := Lr.frozen 1
          have z2 := Lr.frozen 2
          dsimp only
          repeat (first | go_values | go_skip | go_guarded | go_step | go_upon)
          refine bodyPost_ret (v := .tuple #[.agg #[.int .i64 0, .int .i64 0, .slice none 0 0], .bool false]) (by simp [results, Tryd.results8, go_sem, *]) rfl ?_
          exact ⟨_, rfl, cloud_zero _ _ _, ((K2.setNew (by simp +arith) _).setNew (by simp +arith) _).setNew (by simp +arith) _⟩

        · have dk2 : decide (200 < kk) = false := by simp; omega
          obtain ⟨K, hKK⟩ := Int.eq_ofNat_of_zero_le (show 0 ≤ kk by omega)
          subst hKK
          rw [runA_yes ⟨hE, hC, by omega, by omega⟩]
          obtain ⟨R, hR⟩ : ∃ R, runN (x, y, ev, bu, li, sv, fa) K (sd, st, ps) = R := ⟨_, rfl⟩
          rw [hR]
          have HR : Hid (runN (x, y, ev, bu, li, sv, fa) K (sd, st, ps) = R) := hR
          have hK200 : K ≤ 200 := by omega
          clear hR
          have e0 := Le.cell 0 rfl
          have e1 := Le.cell 1 rfl
          have e2 := Le.cell 2 rfl
          have e3 := Le.cell 3 rfl
          have e4 := Le.cell 4 rfl
          have e5 := Le.cell 5 rfl
          have e6 := Le.cell 6 rfl
          go_enter Tryd.func8, Tryd.ntmps8
          repeat (first | rw [← HW0.out] | go_values | go_skip | go_guarded | go_step | go_upon)
          go_at_call 26
          refine (igoodE _ _ _ _ _ _ _ _).mono ?_
          rintro e u1 ⟨rfl, k1⟩
          rw [dE]
          have Le := Le.kept k1
          have Lc := Lc.kept k1
          have Lr := Lr.kept k1
          have K1 := K0.trans k1
          have s1 := k1.size
          clear k1 K0 e0 e1 e2 e3 e4 e5 e6
          have c0 := Lc.cell 0 rfl
          have c1 := Lc.cell 1 rfl
          have c2 := Lc.cell 2 rfl
          dsimp only
          repeat (first | go_values | go_skip | go_guarded | go_step | go_upon)
          go_at_call 27
          refine (igoodC _ _ _ _ _ _ (hv.kept K1) (by omega)).mono ?_
          rintro e u2 ⟨rfl, k2⟩
          rw [dC]
          have Le := Le.kept k2
          have Lc := Lc.kept k2
          have Lr := Lr.kept k2
          have K2 := K1.trans k2
          have s2 := k2.size
          clear k2 K1 c0 c1 c2
          have c0 := Lc.cell 0 rfl
          have c1 := Lc.cell 1 rfl
          have c2 := Lc.cell 2 rfl
          dsimp only
          repeat (first | go_values | go_skip | go_guarded | go_step | go_upon)
          have h60 := hC.2.2.1
          dsimp only at h60
          have cl := Lc.lt
          have el := Le.lt
          clear hK1 hK2 dk dk2
          apply wp_cut2N (F := fun g G W' => Loc W' g [.int .i64 sd, .int .i64 st, .slice (some ⟨G, 0, none⟩) ps.length ps.length] ∧ SparkO W' G (G + 1) (.slice (some ⟨G, 0, none⟩) ps.length ps.length) ps ∧ Kept u2 W' ∧ u2.heap.size ≤ g ∧ u2.heap.size ≤ G ∧ g ≠ G ∧ g < W'.heap.size ∧ G < W'.heap.size)
          · go_region_held3 (fun w' => w'.cell? ⟨w.heap.size + 1, 0, none⟩ = some (.int .i64 sd) ∧ w'.cell? ⟨w.heap.size + 1, 1, none⟩ = some (.int .i64 st) ∧ w'.cell? ⟨w.heap.size + 1, 2, none⟩ = some (.slice ao ps.length cap)) (simp [go_sem, *])
              (first | (go_at_call 28; refine (icopy ps _ _ (hv.kept (But.trans K2 (by (repeat (first | with_reducible exact But.refl _ _ _ | with_reducible apply But.drewN | with_reducible apply But.drew | with_reducible apply But.alloc | (with_reducible refine But.setNew ?_ (by simp; try omega) _)))))) (by omega)).mono ?_; rintro e y1 ⟨rfl, o3, k3, l3⟩; have hc3 := k3.cell_eq; have hf3 := k3.frozen_eq; have hz3 := k3.size; (try simp at hz3); have kw : Kept u2 y1 := (But.trans (by (repeat (first | with_reducible exact But.refl _ _ _ | with_reducible apply But.drewN | with_reducible apply But.drew | with_reducible apply But.alloc | (with_reducible refine But.setNew ?_ (by simp; try omega) _)))) k3); have ca := Kept.cell kw c0; have cb := Kept.cell kw c1; have cc := Kept.cell kw c2; have n1 : u2.heap.size < y1.heap.size := (by simp at l3; omega); have n2 : w.heap.size + 1 < y1.heap.size := (by omega); have n3 : w.heap.size < y1.heap.size := (by omega); have HL3 : Hid (y1.heap.size = _) := l3; clear l3; (try have ya : (y1.cell? ⟨u2.heap.size, 0, none⟩).isSome = true := (by first | (simp [go_sem, hc3]; done) | fail)); (try have yb : (y1.cell? ⟨u2.heap.size, 1, none⟩).isSome = true := (by first | (simp [go_sem, hc3]; done) | fail)); (try have yc : (y1.cell? ⟨u2.heap.size, 2, none⟩).isSome = true := (by first | (simp [go_sem, hc3]; done) | fail)); (try have za : y1.frozen? ⟨u2.heap.size, 0, none⟩ = false := (by first | (simp [go_sem, hf3]; done) | fail)); (try have zb : y1.frozen? ⟨u2.heap.size, 1, none⟩ = false := (by first | (simp [go_sem, hf3]; done) | fail)); (try have zc : y1.frozen? ⟨u2.heap.size, 2, none⟩ = false := (by first | (simp [go_sem, hf3]; done) | fail))))
            · have l3 := HL3.out
              obtain ⟨g0, hg0⟩ : ∃ G, G = y1.heap.size := ⟨_, rfl⟩
              obtain ⟨G0, hG0⟩ : ∃ G, G = u2.heap.size := ⟨_, rfl⟩
              rw [← hg0, ← hG0]
              refine ⟨rfl, g0, G0, rfl, ?_⟩
              subst hg0 hG0
              refine ⟨Loc.new y1 _ 27, SparkO.kept o3 ((But.refl _ _ _).alloc _), kw.alloc _, by omega, Nat.le_refl _, by omega, by simp, by simp; omega⟩
            · have l3 := HL3.out
              have L1 : Loc y1 u2.heap.size [.int .i64 0, .int .i64 0, .slice none 0 0] := ((Loc.new u2 [.int .i64 0, .int .i64 0, .slice none 0 0] 27).kept ((But.refl _ _ _).drew)).kept k3
              have B1 := (((But.refl u2.heap.size (u2.heap.size + 1) y1).setCell (p := ⟨u2.heap.size, 0, none⟩) (by simp) (by simp) (.int .i64 sd)).setCell (p := ⟨u2.heap.size, 1, none⟩) (by simp) (by simp) (.int .i64 st)).setCell (p := ⟨u2.heap.size, 2, none⟩) (by simp) (by simp) (.slice (some ⟨u2.heap.size + 1, 0, none⟩) ps.length ps.length)
              have o4 : SparkO y1 (u2.heap.size + 1) (u2.heap.size + 1 + 1) (.slice (some ⟨u2.heap.size + 1, 0, none⟩) ps.length ps.length) ps := by simpa using o3
              obtain ⟨g0, hg0⟩ : ∃ G, G = u2.heap.size := ⟨_, rfl⟩
              obtain ⟨G0, hG0⟩ : ∃ G, G = u2.heap.size + 1 := ⟨_, rfl⟩
              rw [← hG0, ← hg0]
              refine ⟨rfl, g0, G0, rfl, ?_⟩
              subst hG0 hg0
              simp at l3
              refine ⟨((L1.set 0 _).set 1 _).set 2 _, o4.but B1 (by omega), But.onto kw B1 (Nat.le_refl _), Nat.le_refl _, by omega, by omega, by simp; omega, by simp; omega⟩
          rintro g G u3 ⟨Lt, o3, k3, hg1, hG1, hgG, hg2, hG2⟩
          have Le := Le.kept k3
          have Lr := Lr.kept k3
          have K3 := K2.trans k3
          have hs0 := HS0.out
          have HU2 : Hid (w.heap.size + 1 + 1 < u2.heap.size) := by show w.heap.size + 1 + 1 < u2.heap.size; omega
          clear k3 c0 c1 c2 cl el K2 hs0 Lc
          have HO3 : Hid (SparkO u3 u2.heap.size u3.heap.size (.slice (some ⟨G, 0, none⟩) ps.length ps.length) ps) := (o3.mono (by omega) (Nat.le_refl _)).low
          clear o3
          repeat (first | go_values | go_skip | go_guarded | go_step | go_upon)
          go_loopw [9, 10] (fun gv i wr => ∃ (d : Nat) (cc : CloudD) (gb : Bool) (aq : Option Addr) (cq : Nat), gv = .bool gb ∧ i = .int .i64 d ∧ Hid (LeftR (x, y, ev, bu, li, sv, fa) R K d cc gb) ∧ cc.2.2.length ≤ 60 ∧ Loc wr g [.int .i64 cc.1, .int .i64 cc.2.1, .slice aq cc.2.2.length cq] ∧ SparkO wr u2.heap.size wr.heap.size (.slice aq cc.2.2.length cq) cc.2.2 ∧ Loc wr w.heap.size [.int .i64 x, .int .i64 y, .int .i64 ev, .int .i64 bu, .int .i64 li, .int .i64 sv, .int .i64 fa] ∧ Loc wr (w.heap.size + 1 + 1) [.int .i64 0, .int .i64 0, .slice none 0 0] ∧ Kept w wr) (fun _ i _ => K - (intOf i).toNat)
          case atStart => exact ⟨0, (sd, st, ps), true, _, _, rfl, rfl, (⟨by omega, fun _ => HR.out, fun h => by simp at h⟩ : LeftR (x, y, ev, bu, li, sv, fa) R K 0 (sd, st, ps) true), h60, Lt, HO3.out, Le, Lr, K3⟩
          case round =>
            clear Lt HO3 Le Lr K3 HR
            obtain ⟨d, cc, gb, aq, cq, rfl, rfl, HLF, hcl, Lt, oq, Le, Lr, KQ⟩ := hrel
            have hd := HLF.out.1
            cases gb with
            | false =>
              by_cases hlt : d < K
              · have dd : decide ((d : Int) < (K : Int)) = true := by simp; omega
                have HRE : Hid (R = (cc, false)) := HLF.out.2.2 rfl
                have r0 := Lr.cell 0 rfl
                have r1 := Lr.cell 1 rfl
                have r2 := Lr.cell 2 rfl
                have z0 := Lr.frozen 0
                have z1 := Lr.frozen 1
                have z2 := Lr.frozen 2
                have t0 := Lt.cell 0 rfl
                have t1 := Lt.cell 1 rfl
                have t2 := Lt.cell 2 rfl
                have HOQ : Hid (SparkO wr u2.heap.size wr.heap.size (.slice aq cc.2.2.length cq) cc.2.2) := oq
                have HKQ : Hid (Kept w wr) := KQ
                clear oq KQ HLF
                repeat (first | go_values | go_skip | go_guarded | go_step | go_upon)
                refine bodyPost_ret (v := .tuple #[.agg #[.int .i64 cc.1, .int .i64 cc.2.1, .slice aq cc.2.2.length cq], .bool false]) (by simp [results, Tryd.results8, go_sem, *]) rfl ?_
                rw [HRE.out]
                have hu2 := HU2.out
                have BB := (((But.refl (w.heap.size + 1 + 1) (w.heap.size + 1 + 1 + 1) wr).setCell (p := ⟨w.heap.size + 1 + 1, 0, none⟩) (by simp) (by simp) (.int .i64 cc.1)).setCell (p := ⟨w.heap.size + 1 + 1, 1, none⟩) (by simp) (by simp) (.int .i64 cc.2.1)).setCell (p := ⟨w.heap.size + 1 + 1, 2, none⟩) (by simp) (by simp) (.slice aq cc.2.2.length cq)
                exact ⟨_, rfl, ⟨_, rfl, ((HOQ.out.but BB (by omega)).mono (by omega) BB.size).low⟩, HKQ.out.onto BB (by omega)⟩
              · have dd : decide ((d : Int) < (K : Int)) = false := by simp; omega
                have HRE : Hid (R = (cc, false)) := HLF.out.2.2 rfl
                have r0 := Lr.cell 0 rfl
                have r1 := Lr.cell 1 rfl
                have r2 := Lr.cell 2 rfl
                have z0 := Lr.frozen 0
                have z1 := Lr.frozen 1
                have z2 := Lr.frozen 2
                have t0 := Lt.cell 0 rfl
                have t1 := Lt.cell 1 rfl
                have t2 := Lt.cell 2 rfl
                have HOQ : Hid (SparkO wr u2.heap.size wr.heap.size (.slice aq cc.2.2.length cq) cc.2.2) := oq
                have HKQ : Hid (Kept w wr) := KQ
                clear oq KQ HLF
                repeat (first | go_values | go_skip | go_guarded | go_step | go_upon)
                refine bodyPost_ret (v := .tuple #[.agg #[.int .i64 cc.1, .int .i64 cc.2.1, .slice aq cc.2.2.length cq], .bool false]) (by simp [results, Tryd.results8, go_sem, *]) rfl ?_
                rw [HRE.out]
                have hu2 := HU2.out
                have BB := (((But.refl (w.heap.size + 1 + 1) (w.heap.size + 1 + 1 + 1) wr).setCell (p := ⟨w.heap.size + 1 + 1, 0, none⟩) (by simp) (by simp) (.int .i64 cc.1)).setCell (p := ⟨w.heap.size + 1 + 1, 1, none⟩) (by simp) (by simp) (.int .i64 cc.2.1)).setCell (p := ⟨w.heap.size + 1 + 1, 2, none⟩) (by simp) (by simp) (.slice aq cc.2.2.length cq)
                exact ⟨_, rfl, ⟨_, rfl, ((HOQ.out.but BB (by omega)).mono (by omega) BB.size).low⟩, HKQ.out.onto BB (by omega)⟩
            | true =>
              by_cases hlt : d < K
              · have dd : decide ((d : Int) < (K : Int)) = true := by simp; omega
                have HNX : Hid (LeftR (x, y, ev, bu, li, sv, fa) R K (d + 1) (stepA (x, y, ev, bu, li, sv, fa) (cc.1, cc.2.1, cc.2.2)).1 (stepA (x, y, ev, bu, li, sv, fa) (cc.1, cc.2.1, cc.2.2)).2) := HLF.out.next hlt
                have hnl := stepA_len (x, y, ev, bu, li, sv, fa) (cc.1, cc.2.1, cc.2.2)
                have HST := istep x y ev bu li sv fa cc.1 cc.2.1 cc.2.2 aq cq wr (hT.kept KQ) oq.at (by omega)
                generalize stepA (x, y, ev, bu, li, sv, fa) (cc.1, cc.2.1, cc.2.2) = nx at HNX hnl HST
                obtain ⟨c9, b9⟩ := nx
                have t0 := Lt.cell 0 rfl
                have t1 := Lt.cell 1 rfl
                have t2 := Lt.cell 2 rfl
                have e0 := Le.cell 0 rfl
                have e1 := Le.cell 1 rfl
                have e2 := Le.cell 2 rfl
                have e3 := Le.cell 3 rfl
                have e4 := Le.cell 4 rfl
                have e5 := Le.cell 5 rfl
                have e6 := Le.cell 6 rfl
                have HKQ : Hid (Kept w wr) := KQ
                have hgw := Lt.lt
                clear oq KQ HLF
                repeat (first | go_values | go_skip | go_guarded | go_step | go_upon)
                go_at_call 18
                refine HST.mono ?_
                rintro e w9 ⟨v9, rfl, o9, k9⟩
                obtain ⟨a9, p9, hf9⟩ := o9.form
                subst hf9
                have Lt := Lt.kept k9
                have Le := Le.kept k9
                have Lr := Lr.kept k9
                have HK9 : Hid (Kept w w9) := HKQ.out.trans k9
                have HO9 : Hid (SparkO w9 wr.heap.size w9.heap.size (.slice a9 c9.2.2.length p9) c9.2.2) := o9.row
                have hwz := Lt.lt
                have hwq := k9.size
                clear HST o9 k9 t0 t1 t2 e0 e1 e2 e3 e4 e5 e6 HKQ
                have t0 := Lt.cell 0 rfl
                have t1 := Lt.cell 1 rfl
                have t2 := Lt.cell 2 rfl
                have z0 := Lt.frozen 0
                have z1 := Lt.frozen 1
                have z2 := Lt.frozen 2
                dsimp only
                repeat (first | go_values | go_skip | go_guarded | go_step | go_upon)
                have hu2 := HU2.out
                have BB := (((But.refl g (g + 1) w9).setCell (p := ⟨g, 0, none⟩) (by simp) (by simp) (.int .i64 c9.1)).setCell (p := ⟨g, 1, none⟩) (by simp) (by simp) (.int .i64 c9.2.1)).setCell (p := ⟨g, 2, none⟩) (by simp) (by simp) (.slice a9 c9.2.2.length p9)
                exact ⟨⟨d + 1, c9, b9, a9, p9, rfl, by go_num, HNX.out, hnl, ((Lt.set 0 _).set 1 _).set 2 _, ((HO9.out.but BB (by omega)).mono (by omega) BB.size).low, Le.but BB (by omega), Lr.but BB (by omega), HK9.out.onto BB (by omega)⟩, by simp [intOf]; omega⟩
              · have dd : decide ((d : Int) < (K : Int)) = false := by simp; omega
                have hdk : K - d = 0 := by omega
                have hrr := HLF.out.2.1 rfl
                rw [hdk, runN] at hrr
                have HRE : Hid (R = (cc, true)) := hrr.symm
                have r0 := Lr.cell 0 rfl
                have r1 := Lr.cell 1 rfl
                have r2 := Lr.cell 2 rfl
                have z0 := Lr.frozen 0
                have z1 := Lr.frozen 1
                have z2 := Lr.frozen 2
                have t0 := Lt.cell 0 rfl
                have t1 := Lt.cell 1 rfl
                have t2 := Lt.cell 2 rfl
                have HOQ : Hid (SparkO wr u2.heap.size wr.heap.size (.slice aq cc.2.2.length cq) cc.2.2) := oq
                have HKQ : Hid (Kept w wr) := KQ
                clear oq KQ HLF hrr hdk
                repeat (first | go_values | go_skip | go_guarded | go_step | go_upon)
                refine bodyPost_ret (v := .tuple #[.agg #[.int .i64 cc.1, .int .i64 cc.2.1, .slice aq cc.2.2.length cq], .bool true]) (by simp [results, Tryd.results8, go_sem, *]) rfl ?_
                rw [HRE.out]
                have hu2 := HU2.out
                have BB := (((But.refl (w.heap.size + 1 + 1) (w.heap.size + 1 + 1 + 1) wr).setCell (p := ⟨w.heap.size + 1 + 1, 0, none⟩) (by simp) (by simp) (.int .i64 cc.1)).setCell (p := ⟨w.heap.size + 1 + 1, 1, none⟩) (by simp) (by simp) (.int .i64 cc.2.1)).setCell (p := ⟨w.heap.size + 1 + 1, 2, none⟩) (by simp) (by simp) (.slice aq cc.2.2.length cq)
                exact ⟨_, rfl, ⟨_, rfl, ((HOQ.out.but BB (by omega)).mono (by omega) BB.size).low⟩, HKQ.out.onto BB (by omega)⟩
    · rw [runA_no (fun h => hC h.2.1)]
      have dC : decide (CloudP (sd, st, ps)) = false := decide_eq_false hC
      have e0 := Le.cell 0 rfl
      have e1 := Le.cell 1 rfl
      have e2 := Le.cell 2 rfl
      have e3 := Le.cell 3 rfl
      have e4 := Le.cell 4 rfl
      have e5 := Le.cell 5 rfl
      have e6 := Le.cell 6 rfl
      go_enter Tryd.func8, Tryd.ntmps8
      repeat (first | rw [← HW0.out] | go_values | go_skip | go_guarded | go_step | go_upon)
      go_at_call 26
      refine (igoodE _ _ _ _ _ _ _ _).mono ?_
      rintro e u1 ⟨rfl, k1⟩
      rw [dE]
      have Le := Le.kept k1
      have Lc := Lc.kept k1
      have Lr := Lr.kept k1
      have K1 := K0.trans k1
      have s1 := k1.size
      clear k1 K0 e0 e1 e2 e3 e4 e5 e6
      have c0 := Lc.cell 0 rfl
      have c1 := Lc.cell 1 rfl
      have c2 := Lc.cell 2 rfl
      dsimp only
      repeat (first | go_values | go_skip | go_guarded | go_step | go_upon)
      go_at_call 27
      refine (igoodC _ _ _ _ _ _ (hv.kept K1) (by omega)).mono ?_
      rintro e u2 ⟨rfl, k2⟩
      rw [dC]
      have Le := Le.kept k2
      have Lc := Lc.kept k2
      have Lr := Lr.kept k2
      have K2 := K1.trans k2
      have s2 := k2.size
      clear k2 K1 c0 c1 c2
      have c0 := Lc.cell 0 rfl
      have c1 := Lc.cell 1 rfl
      have c2 := Lc.cell 2 rfl
      have r0 := Lr.cell 0 rfl
      have r1 := Lr.cell 1 rfl
      have r2 := Lr.cell 2 rfl
      have z0 := Lr.frozen 0
      have z1 := Lr.frozen 1
      have z2 := Lr.frozen 2
      dsimp only
      repeat (first | go_values | go_skip | go_guarded | go_step | go_upon)
      refine bodyPost_ret (v := .tuple #[.agg #[.int .i64 0, .int .i64 0, .slice none 0 0], .bool false]) (by simp [results, Tryd.results8, go_sem, *]) rfl ?_
      exact ⟨_, rfl, cloud_zero _ _ _, ((K2.setNew (by simp +arith) _).setNew (by simp +arith) _).setNew (by simp +arith) _⟩

  · rw [runA_no (fun h => hE h.1)]
    have dE : decide (EmitP x y ev bu li sv fa) = false := decide_eq_false hE
    have e0 := Le.cell 0 rfl
    have e1 := Le.cell 1 rfl
    have e2 := Le.cell 2 rfl
    have e3 := Le.cell 3 rfl
    have e4 := Le.cell 4 rfl
    have e5 := Le.cell 5 rfl
    have e6 := Le.cell 6 rfl
    go_enter Tryd.func8, Tryd.ntmps8
    repeat (first | rw [← HW0.out] | go_values | go_skip | go_guarded | go_step | go_upon)
    go_at_call 26
    refine (igoodE _ _ _ _ _ _ _ _).mono ?_
    rintro e u1 ⟨rfl, k1⟩
    rw [dE]
    have Le := Le.kept k1
    have Lc := Lc.kept k1
    have Lr := Lr.kept k1
    have K1 := K0.trans k1
    have s1 := k1.size
    clear k1 K0 e0 e1 e2 e3 e4 e5 e6
    have c0 := Lc.cell 0 rfl
    have c1 := Lc.cell 1 rfl
    have c2 := Lc.cell 2 rfl
    have r0 := Lr.cell 0 rfl
    have r1 := Lr.cell 1 rfl
    have r2 := Lr.cell 2 rfl
    have z0 := Lr.frozen 0
    have z1 := Lr.frozen 1
    have z2 := Lr.frozen 2
    dsimp only
    repeat (first | go_values | go_skip | go_guarded | go_step | go_upon)
    refine bodyPost_ret (v := .tuple #[.agg #[.int .i64 0, .int .i64 0, .slice none 0 0], .bool false]) (by simp [results, Tryd.results8, go_sem, *]) rfl ?_
    exact ⟨_, rfl, cloud_zero _ _ _, ((K1.setNew (by simp +arith) _).setNew (by simp +arith) _).setNew (by simp +arith) _⟩


end Go.Proofs.YtpeiblodefaajaaDoor
