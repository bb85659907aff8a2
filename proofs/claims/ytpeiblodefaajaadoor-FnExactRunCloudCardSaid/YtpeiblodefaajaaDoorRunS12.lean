/-
  What the specification's RunCloud answers.
-/
import Derived.Test.YtpeiblodefaajaaDoorStepS12
import Derived.Test.YtpeiblodefaajaaDoorRunI12
import Derived.Lib.AppendZeros
namespace Go.Proofs.YtpeiblodefaajaaDoor
open Go.ChangeShapes Go.WideShapes Go.ChangeAt Go.RowKit
theorem run_append_none {P : Program} (w : World) (t ty e : TypeId) (i : TypeInfo) (ht : P.underlying t = some (.slice e)) (hi : P.info? e = some i) (ao : Option Addr) (n cap c : Nat) (hn : n ≤ cap) :
    (Builtin.append_ #[t, t] ty #[.slice ao n cap, .slice none 0 c]).run P w = .ok (.slice ao n cap) w := by
  cases ao <;> simp [Builtin.append_, run_underlying ht, sizeOf, typeInfo, hi, Builtin.lenOf, Builtin.firstCells, loadCells, hn, storeCells]

theorem row_none {w : World} {n cap : Nat} {xs : List Value} (h : RowAt w (.slice none n cap) n xs) : xs = [] := by
  obtain ⟨ao, cap', e, hc⟩ := h
  cases e
  cases xs with
  | nil => rfl
  | cons x xs => obtain ⟨b, o, e, _⟩ := hc 0 x rfl; cases e
theorem wpList_append_any {P : Program} (w : World) {ops : Array Oper} {rest : List Oper} {o : Oper} {a : Act} {Q : Exit → Act → World → Prop} (hgd : o.guard = none) (s x : Operand) (t : TypeId)
    (ho : o.op = .call { callee := .builtin .append, args := #[s, x], argTypes := #[t, t] })
    (base : Nat) (e : TypeId) (i : TypeInfo) (z : Value) (size bytes : Nat) (ht : P.underlying t = some (.slice e)) (hi : P.info? e = some i) (hz : i.zero = some z)
    (hsize : i.size = size) (hby : i.bytes = bytes) (hzs : z.cells.size = size) (hsz : 0 < size)
    (v : Value) (n : Nat) (xs : List Value) (hs : a.eval s = v) (hown : w.ownsRow base e size v n xs)
    (ao : Option Addr) (m c : Nat) (news : List Value) (hx : a.eval x = .slice ao m c) (hl : news.length = m * size) (hnews : ∀ j u, news[j]? = some u → ∃ ad, ao = some ad ∧ w.cell? (ad.add j) = some u) (h1 : ∀ u ∈ news, u.oneCell' = true)
    (h63 : n + m ≤ maxLen) (hbytes : (n + m) * bytes ≤ 140737488355328) (hbase : base ≤ w.heap.size)
    (h : ∀ v' w', w'.ownsRow base e size v' (n + m) (xs ++ news) → w.grownBy w' v.ownBlock → wpList P ops Q rest (a.put o.dst v') w') : wpList P ops Q (o :: rest) a w := by
  cases ao with
  | some ad =>
    refine wpList_append_own w hgd s x t ho base e i z size bytes ht hi hz hsize hby hzs hsz v n xs hs hown ad m c news hx hl (fun j u hu => ?_) h1 h63 hbytes hbase (fun v' w' h2 h3 _ => h v' w' h2 h3)
    obtain ⟨ad', e1, h2⟩ := hnews j u hu
    cases e1
    exact h2
  | none =>
    have hm : news = [] := by
      cases news with
      | nil => rfl
      | cons y l => obtain ⟨ad, e1, _⟩ := hnews 0 y rfl; cases e1
    subst hm
    obtain rfl : m = 0 := by
      rcases Nat.eq_zero_or_pos m with h0 | h0
      · exact h0
      · have := Nat.mul_pos h0 hsz
        simp at hl
        omega
    obtain ⟨ao', cap', hf, _⟩ := own_form hown
    have hcap : n ≤ cap' := by
      rcases hown.2 with ⟨hv, h0⟩ | ⟨g', c', cur, hv, _, _, hnc, _⟩
      · omega
      · rw [hf] at hv; cases hv; exact hnc
    have h2 := h v w (by simpa using hown) (World.grownBy.refl _ _)
    subst hf
    exact Lib.wpList_append_run w hgd s x t t ho _ _ hs hx _ _ (run_append_none w t o.type e i ht hi ao' n cap' c hcap) h2
theorem row_src {w : World} {ao : Option Addr} {n cap : Nat} {ps : List SparkD} (h : SparkAt w (.slice ao n cap) ps) : ∀ j u, (ps.flatMap sparkC)[j]? = some u → ∃ ad, ao = some ad ∧ w.cell? (ad.add j) = some u := fun j u hj => by
  obtain ⟨ao', cap', e, hc⟩ := h
  cases e
  obtain ⟨b, o, e2, h2⟩ := hc j u hj
  exact ⟨⟨b, o, none⟩, e2, by rw [Go.WideShapes.add_plain]; exact h2⟩

set_option maxRecDepth 100000
set_option linter.unusedVariables false
set_option maxHeartbeats 8000000 in
theorem srun (x y ev bu li sv fa sd st kk : Int) (ps : List SparkD) (ao : Option Addr) (cap : Nat) (w : World) (hT : Tab w) (hv : SparkAt w (.slice ao ps.length cap) ps) (hn : ps.length ≤ 1048576) :
    Calls Tryd.prog 9 #[.agg #[.int .i64 x, .int .i64 y, .int .i64 ev, .int .i64 bu, .int .i64 li, .int .i64 sv, .int .i64 fa], .agg #[.int .i64 sd, .int .i64 st, .slice ao ps.length cap], .int .i64 kk] w fun r w' => ∃ v', r = .returned (.tuple #[v', .bool (runA (x, y, ev, bu, li, sv, fa) (sd, st, ps) kk).2]) ∧ CloudO w' w.heap.size w'.heap.size v' (runA (x, y, ev, bu, li, sv, fa) (sd, st, ps) kk).1 ∧ Kept w w' := by
  have h00 := hT.size
  obtain ⟨W0, hW0⟩ : ∃ W, W = ((w.alloc (.cells #[.int .i64 x, .int .i64 y, .int .i64 ev, .int .i64 bu, .int .i64 li, .int .i64 sv, .int .i64 fa] 24)).alloc (.cells #[.int .i64 sd, .int .i64 st, .slice ao ps.length cap] 27)).alloc (.cells #[.int .i64 0, .int .i64 0, .slice none 0 0] 27) := ⟨_, rfl⟩
  have K0 : Kept w W0 := by rw [hW0]; exact (((But.refl _ _ _).alloc _).alloc _).alloc _
  have Le : Loc W0 w.heap.size [.int .i64 x, .int .i64 y, .int .i64 ev, .int .i64 bu, .int .i64 li, .int .i64 sv, .int .i64 fa] := by rw [hW0]; exact ((Loc.new w _ 24).alloc _).alloc _
  have Lc : Loc W0 (w.heap.size + 1) [.int .i64 sd, .int .i64 st, .slice ao ps.length cap] := by rw [hW0]; have := (Loc.new (w.alloc (.cells #[.int .i64 x, .int .i64 y, .int .i64 ev, .int .i64 bu, .int .i64 li, .int .i64 sv, .int .i64 fa] 24)) [.int .i64 sd, .int .i64 st, .slice ao ps.length cap] 27).alloc (.cells #[.int .i64 0, .int .i64 0, .slice none 0 0] 27); simpa using this
  have Lr : Loc W0 (w.heap.size + 1 + 1) [.int .i64 0, .int .i64 0, .slice none 0 0] := by rw [hW0]; have := Loc.new ((w.alloc (.cells #[.int .i64 x, .int .i64 y, .int .i64 ev, .int .i64 bu, .int .i64 li, .int .i64 sv, .int .i64 fa] 24)).alloc (.cells #[.int .i64 sd, .int .i64 st, .slice ao ps.length cap] 27)) [.int .i64 0, .int .i64 0, .slice none 0 0] 27; simpa using this
  have s0 : W0.heap.size = w.heap.size + 1 + 1 + 1 := by rw [hW0]; simp
  have HW0 : Hid (W0 = _) := hW0
  have HS0 : Hid (W0.heap.size = w.heap.size + 1 + 1 + 1) := s0
  clear hW0 s0
  by_cases hE : EP (x, y, ev, bu, li, sv, fa)
  · have dE : decide (EmitP x y ev bu li sv fa) = true := decide_eq_true hE
    by_cases hC : CloudP (sd, st, ps)
    · have dC : decide (CloudP (sd, st, ps)) = true := decide_eq_true hC
      by_cases hK : 0 ≤ kk ∧ kk ≤ 200
      · have dk : decide (0 ≤ kk ∧ kk ≤ 200) = true := decide_eq_true hK
        obtain ⟨K, hKK⟩ := Int.eq_ofNat_of_zero_le hK.1
        subst hKK
        rw [runA_yes ⟨hE, hC, hK⟩]
        obtain ⟨R, hR⟩ : ∃ R, runN (x, y, ev, bu, li, sv, fa) K (sd, st, ps) = R := ⟨_, rfl⟩
        rw [hR]
        have HR : Hid (runN (x, y, ev, bu, li, sv, fa) K (sd, st, ps) = R) := hR
        have hK200 : K ≤ 200 := by omega
        have h60 := hC.2.2.1
        dsimp only at h60
        clear hR hK
        have e0 := Le.cell 0 rfl
        have e1 := Le.cell 1 rfl
        have e2 := Le.cell 2 rfl
        have e3 := Le.cell 3 rfl
        have e4 := Le.cell 4 rfl
        have e5 := Le.cell 5 rfl
        have e6 := Le.cell 6 rfl
        go_enter Tryd.func9, Tryd.ntmps9
        repeat (first | rw [← HW0.out] | go_values | go_skip | go_guarded | go_step | go_upon)
        go_at_call 29
        refine (sgoodE _ _ _ _ _ _ _ _).mono ?_
        rintro e u1 ⟨rfl, k1⟩
        rw [dE]
        have Le := Le.kept k1
        have Lc := Lc.kept k1
        have Lr := Lr.kept k1
        have K1 := K0.trans k1
        have s1 := k1.size
        clear k1 K0 e0 e1 e2 e3 e4 e5 e6
        have c0 := Lc.cell 0 rfl
        have c1 := Lc.cell 1 rfl
        have c2 := Lc.cell 2 rfl
        dsimp only
        repeat (first | go_values | go_skip | go_guarded | go_step | go_upon)
        go_at_call 30
        refine (sgoodC _ _ _ _ _ _ (hv.kept K1) (by omega)).mono ?_
        rintro e u2 ⟨rfl, k2⟩
        rw [dC]
        have Le := Le.kept k2
        have Lc := Lc.kept k2
        have Lr := Lr.kept k2
        have K2 := K1.trans k2
        have s2 := k2.size
        clear k2 K1 c0 c1 c2
        have c0 := Lc.cell 0 rfl
        have c1 := Lc.cell 1 rfl
        have c2 := Lc.cell 2 rfl
        have cl := Lc.lt
        have el := Le.lt
        have hs0 := HS0.out
        have HU2 : Hid (w.heap.size + 1 + 1 < u2.heap.size) := by show w.heap.size + 1 + 1 < u2.heap.size; omega
        obtain ⟨i0, hi0, hz0, hz1, hz2⟩ := info_parts info_spark
        obtain ⟨u3, hu3⟩ : ∃ W, W = u2.alloc (.cells #[] 66) := ⟨_, rfl⟩
        have KA : Kept u2 u3 := by rw [hu3]; exact (But.refl _ _ _).alloc _
        have oA : SparkO u3 u2.heap.size (u2.heap.size + 1) (.slice (some ⟨u2.heap.size, 0, none⟩) 0 0) [] := by
          rw [hu3]
          exact ⟨⟨rfl, .inr ⟨u2.heap.size, 0, #[], rfl, Nat.le_refl _, (MapKept.heap_alloc u2 _).1, Nat.le_refl _, by unfold maxLen; omega, rfl, rfl⟩⟩, fun g hg => by simp [Value.ownBlock] at hg; omega⟩
        have hvA : SparkAt u3 (.slice ao ps.length cap) ps := (hv.kept K2).kept KA
        have HU3 : Hid (u3 = _) := hu3
        have HOA : Hid (SparkO u3 u2.heap.size (u2.heap.size + 1) (.slice (some ⟨u2.heap.size, 0, none⟩) 0 0) []) := oA
        have HVA : Hid (SparkAt u3 (.slice ao ps.length cap) ps) := hvA
        have HKA : Hid (Kept u2 u3) := KA
        have hs3 : u3.heap.size = u2.heap.size + 1 := by rw [hu3]; simp
        have HS3 : Hid (u3.heap.size = u2.heap.size + 1) := hs3
        clear hu3 KA oA hvA hs0 hs3
        dsimp only
        repeat (first
            | (go_at_call 31; refine (sIn _ _ _ _).mono ?_; rintro e w1 ⟨rfl, hw1⟩; rw [hw1, dk]; clear hw1 w1; dsimp only)
            | (at_builtin
               rw [← HU3.out]
               refine wpList_append_any _ rfl _ _ 25 rfl u2.heap.size 66 i0 (.agg #[.int .i64 0, .int .i64 0, .int .i64 0, .int .i64 0, .int .i64 0]) 5 40 Tryd.underlying25 hi0 hz0 hz1 hz2 rfl (by decide) _ _ _ rfl HOA.out.1 ao ps.length cap (ps.flatMap sparkC) rfl (by rw [flat_len 5 sparkC sparkC_len]) (row_src HVA.out) (ones ps) (by unfold maxLen; simp; omega) (by simp; omega) (by have := HS3.out; omega) ?_
               intro v' w2 hown hgrow
               obtain ⟨ao3, cp3, hf3, _⟩ := own_form hown
               rw [List.length_nil, Nat.zero_add] at hf3
               subst hf3
               have K3 := K2.trans HKA.out
               have HT2 : Hid (SparkO w2 u2.heap.size w2.heap.size (.slice ao3 ps.length cp3) ps) := (show SparkO w2 u2.heap.size w2.heap.size (.slice ao3 ps.length cp3) ps from (by have h := RowO.top hown; simpa [SparkO] using h))
               have lc2 := ((Lc.kept HKA.out).grown hgrow (HOA.out.not_block (Lc.kept HKA.out) (by simp)))
               have HLc2 : Hid (Loc w2 (w.heap.size + 1) [.int .i64 sd, .int .i64 st, .slice ao ps.length cap]) := lc2
               have HLe2 : Hid (Loc w2 w.heap.size [.int .i64 x, .int .i64 y, .int .i64 ev, .int .i64 bu, .int .i64 li, .int .i64 sv, .int .i64 fa]) := ((Le.kept HKA.out).grown hgrow (HOA.out.not_block (Le.kept HKA.out) (by simp)))
               have HLr2 : Hid (Loc w2 (w.heap.size + 1 + 1) [.int .i64 0, .int .i64 0, .slice none 0 0]) := ((Lr.kept HKA.out).grown hgrow (HOA.out.not_block (Lr.kept HKA.out) (by simp)))
               have HK2 : Hid (Kept w w2) := (K3.grown hgrow (by intro zz hzz; have := own_lt HOA.out.1 hzz; have := HU2.out; omega))
               have HZ2 : Hid (u2.heap.size ≤ w2.heap.size) := (Nat.le_trans HKA.out.size hgrow.size)
               have x2 := lc2.cell 2 rfl
               have y2 := lc2.frozen 2
               clear hown hgrow lc2 K3 c0 c1 c2)
            | go_values | go_skip | go_guarded | go_step | go_upon)
        have hu2 := HU2.out
        go_loopw [2] (fun i wr => ∃ (d : Nat) (cc : CloudD) (aq : Option Addr) (cq : Nat), d ≤ K ∧ i = .int .i64 d ∧ Hid (runN (x, y, ev, bu, li, sv, fa) d cc = R) ∧ cc.2.2.length ≤ 60 ∧ Loc wr (w.heap.size + 1) [.int .i64 cc.1, .int .i64 cc.2.1, .slice aq cc.2.2.length cq] ∧ SparkO wr u2.heap.size wr.heap.size (.slice aq cc.2.2.length cq) cc.2.2 ∧ Loc wr w.heap.size [.int .i64 x, .int .i64 y, .int .i64 ev, .int .i64 bu, .int .i64 li, .int .i64 sv, .int .i64 fa] ∧ Loc wr (w.heap.size + 1 + 1) [.int .i64 0, .int .i64 0, .slice none 0 0] ∧ Kept w wr ∧ u2.heap.size ≤ wr.heap.size) (fun i _ => (intOf i).toNat)
        case atStart =>
          have BB := (But.refl (w.heap.size + 1) (w.heap.size + 1 + 1) w2).setCell (p := ⟨w.heap.size + 1, 2, none⟩) (by simp) (by simp) (.slice ao3 ps.length cp3)
          exact ⟨K, (sd, st, ps), ao3, cp3, Nat.le_refl _, rfl, HR.out, h60, HLc2.out.set 2 _, (HT2.out.but BB (by omega)).low, HLe2.out.but BB (by omega), HLr2.out.but BB (by omega), HK2.out.onto BB (by omega), by simpa using HZ2.out⟩
        case round =>
          clear HLc2 HT2 HLe2 HLr2 HK2 HR
          obtain ⟨d, cc, aq, cq, hd, rfl, HRD, hcl, Lc, oq, Le, Lr, KQ, hzq⟩ := hrel
          by_cases hlt : 0 < d
          · have dd : decide ((0 : Int) < (d : Int)) = true := by simp; omega
            have hrd := HRD.out
            rw [show d = (d - 1) + 1 by omega, runN] at hrd
            have hnl := stepA_len (x, y, ev, bu, li, sv, fa) (cc.1, cc.2.1, cc.2.2)
            have HST := sstep x y ev bu li sv fa cc.1 cc.2.1 cc.2.2 aq cq wr (hT.kept KQ) oq.at (by omega)
            have HNX : Hid (if (stepA (x, y, ev, bu, li, sv, fa) (cc.1, cc.2.1, cc.2.2)).2 = true then runN (x, y, ev, bu, li, sv, fa) (d - 1) (stepA (x, y, ev, bu, li, sv, fa) (cc.1, cc.2.1, cc.2.2)).1 = R else R = (c0, false)) := by
              show if (stepA (x, y, ev, bu, li, sv, fa) (cc.1, cc.2.1, cc.2.2)).2 = true then _ else _
              split
              · rename_i hb
                rw [if_pos hb] at hrd
                exact hrd
              · rename_i hb
                rw [if_neg hb] at hrd
                exact hrd.symm
            generalize stepA (x, y, ev, bu, li, sv, fa) (cc.1, cc.2.1, cc.2.2) = nx at HNX hnl HST
            obtain ⟨c9, b9⟩ := nx
            have t0 := Lc.cell 0 rfl
            have t1 := Lc.cell 1 rfl
            have t2 := Lc.cell 2 rfl
            have e0 := Le.cell 0 rfl
            have e1 := Le.cell 1 rfl
            have e2 := Le.cell 2 rfl
            have e3 := Le.cell 3 rfl
            have e4 := Le.cell 4 rfl
            have e5 := Le.cell 5 rfl
            have e6 := Le.cell 6 rfl
            have HKQ : Hid (Kept w wr) := KQ
            have hgw := Lc.lt
            have hlw := Lr.lt
            clear oq KQ HRD hrd
            repeat (first | go_values | go_skip | go_guarded | go_step | go_upon)
            go_at_call 15
            refine HST.mono ?_
            rintro e w9 ⟨v9, rfl, o9, k9⟩
            obtain ⟨a9, p9, hf9⟩ := o9.form
            subst hf9
            have Lc := Lc.kept k9
            have Le := Le.kept k9
            have Lr := Lr.kept k9
            have HK9 : Hid (Kept w w9) := HKQ.out.trans k9
            have HO9 : Hid (SparkO w9 wr.heap.size w9.heap.size (.slice a9 c9.2.2.length p9) c9.2.2) := o9.row
            have hwq := k9.size
            have hcl9 := Lc.lt
            have hrl9 := Lr.lt
            clear HST o9 k9 t0 t1 t2 e0 e1 e2 e3 e4 e5 e6 HKQ
            cases b9 with
            | false =>
              have HRE : Hid (R = (c0, false)) := HNX.out
              have r0 := Lr.cell 0 rfl
              have r1 := Lr.cell 1 rfl
              have r2 := Lr.cell 2 rfl
              have z0 := Lr.frozen 0
              have z1 := Lr.frozen 1
              have z2 := Lr.frozen 2
              dsimp only
              repeat (first | go_values | go_skip | go_guarded | go_step | go_upon)
              refine bodyPost_ret (v := .tuple #[.agg #[.int .i64 0, .int .i64 0, .slice none 0 0], .bool false]) (by simp [results, Tryd.results9, go_sem, *]) rfl ?_
              rw [HRE.out]
              refine ⟨_, rfl, cloud_zero _ _ _, ?_⟩
              repeat (first | with_reducible exact HK9.out | with_reducible apply But.alloc | (with_reducible refine But.setNew ?_ (by simp +arith) _))
            | true =>
              have HRE : Hid (runN (x, y, ev, bu, li, sv, fa) (d - 1) c9 = R) := HNX.out
              have t0 := Lc.cell 0 rfl
              have t1 := Lc.cell 1 rfl
              have t2 := Lc.cell 2 rfl
              have z0 := Lc.frozen 0
              have z1 := Lc.frozen 1
              have z2 := Lc.frozen 2
              dsimp only
              repeat (first | go_values | go_skip | go_guarded | go_step | go_upon)
              have BB := (((But.refl (w.heap.size + 1) (w.heap.size + 1 + 1) w9).setCell (p := ⟨w.heap.size + 1, 0, none⟩) (by simp) (by simp) (.int .i64 c9.1)).setCell (p := ⟨w.heap.size + 1, 1, none⟩) (by simp) (by simp) (.int .i64 c9.2.1)).setCell (p := ⟨w.heap.size + 1, 2, none⟩) (by simp) (by simp) (.slice a9 c9.2.2.length p9)
              have CA := BB.alloc (.cells #[.int .i64 c9.1, .int .i64 c9.2.1, .slice a9 c9.2.2.length p9] 27)
              exact ⟨⟨d - 1, c9, a9, p9, by omega, by go_num, HRE.out, hnl, (((Lc.set 0 _).set 1 _).set 2 _).alloc _, ((HO9.out.but CA (by omega)).mono (by omega) CA.size).low, Le.but CA (by omega), Lr.but CA (by omega), HK9.out.onto CA (by omega), by simp; omega⟩, by simp [intOf]; omega⟩
          · have hd0 : d = 0 := by omega
            subst hd0
            have hrr := HRD.out
            rw [runN] at hrr
            have HRE : Hid (R = (cc, true)) := hrr.symm
            have r0 := Lr.cell 0 rfl
            have r1 := Lr.cell 1 rfl
            have r2 := Lr.cell 2 rfl
            have z0 := Lr.frozen 0
            have z1 := Lr.frozen 1
            have z2 := Lr.frozen 2
            have t0 := Lc.cell 0 rfl
            have t1 := Lc.cell 1 rfl
            have t2 := Lc.cell 2 rfl
            have HOQ : Hid (SparkO wr u2.heap.size wr.heap.size (.slice aq cc.2.2.length cq) cc.2.2) := oq
            have HKQ : Hid (Kept w wr) := KQ
            clear oq KQ HRD hrr hlt
            repeat (first | go_values | go_skip | go_guarded | go_step | go_upon)
            refine bodyPost_ret (v := .tuple #[.agg #[.int .i64 cc.1, .int .i64 cc.2.1, .slice aq cc.2.2.length cq], .bool true]) (by simp [results, Tryd.results9, go_sem, *]) rfl ?_
            rw [HRE.out]
            have BB := (((But.refl (w.heap.size + 1 + 1) (w.heap.size + 1 + 1 + 1) wr).setCell (p := ⟨w.heap.size + 1 + 1, 0, none⟩) (by simp) (by simp) (.int .i64 cc.1)).setCell (p := ⟨w.heap.size + 1 + 1, 1, none⟩) (by simp) (by simp) (.int .i64 cc.2.1)).setCell (p := ⟨w.heap.size + 1 + 1, 2, none⟩) (by simp) (by simp) (.slice aq cc.2.2.length cq)
            exact ⟨_, rfl, ⟨_, rfl, ((HOQ.out.but BB (by omega)).mono (by omega) BB.size).low⟩, HKQ.out.onto BB (by omega)⟩
      · rw [runA_no (fun h => hK h.2.2)]
        have dk : decide (0 ≤ kk ∧ kk ≤ 200) = false := decide_eq_false hK
        have e0 := Le.cell 0 rfl
        have e1 := Le.cell 1 rfl
        have e2 := Le.cell 2 rfl
        have e3 := Le.cell 3 rfl
        have e4 := Le.cell 4 rfl
        have e5 := Le.cell 5 rfl
        have e6 := Le.cell 6 rfl
        go_enter Tryd.func9, Tryd.ntmps9
        repeat (first | rw [← HW0.out] | go_values | go_skip | go_guarded | go_step | go_upon)
        go_at_call 29
        refine (sgoodE _ _ _ _ _ _ _ _).mono ?_
        rintro e u1 ⟨rfl, k1⟩
        rw [dE]
        have Le := Le.kept k1
        have Lc := Lc.kept k1
        have Lr := Lr.kept k1
        have K1 := K0.trans k1
        have s1 := k1.size
        clear k1 K0 e0 e1 e2 e3 e4 e5 e6
        have c0 := Lc.cell 0 rfl
        have c1 := Lc.cell 1 rfl
        have c2 := Lc.cell 2 rfl
        dsimp only
        repeat (first | go_values | go_skip | go_guarded | go_step | go_upon)
        go_at_call 30
        refine (sgoodC _ _ _ _ _ _ (hv.kept K1) (by omega)).mono ?_
        rintro e u2 ⟨rfl, k2⟩
        rw [dC]
        have Le := Le.kept k2
        have Lc := Lc.kept k2
        have Lr := Lr.kept k2
        have K2 := K1.trans k2
        have s2 := k2.size
        clear k2 K1 c0 c1 c2
        have c0 := Lc.cell 0 rfl
        have c1 := Lc.cell 1 rfl
        have c2 := Lc.cell 2 rfl
        have r0 := Lr.cell 0 rfl
        have r1 := Lr.cell 1 rfl
        have r2 := Lr.cell 2 rfl
        have z0 := Lr.frozen 0
        have z1 := Lr.frozen 1
        have z2 := Lr.frozen 2
        dsimp only
        repeat (first
            | (go_at_call 31; refine (sIn _ _ _ _).mono ?_; rintro e w1 ⟨rfl, hw1⟩; rw [hw1, dk]; clear hw1 w1; dsimp only)
            | (at_builtin
               rw [← HU3.out]
               refine wpList_append_any _ rfl _ _ 25 rfl u2.heap.size 66 i0 (.agg #[.int .i64 0, .int .i64 0, .int .i64 0, .int .i64 0, .int .i64 0]) 5 40 Tryd.underlying25 hi0 hz0 hz1 hz2 rfl (by decide) _ _ _ rfl HOA.out.1 ao ps.length cap (ps.flatMap sparkC) rfl (by rw [flat_len 5 sparkC sparkC_len]) (row_src HVA.out) (ones ps) (by unfold maxLen; simp; omega) (by simp; omega) (by have := HS3.out; omega) ?_
               intro v' w2 hown hgrow
               obtain ⟨ao3, cp3, hf3, _⟩ := own_form hown
               rw [List.length_nil, Nat.zero_add] at hf3
               subst hf3
               have K3 := K2.trans HKA.out
               have HT2 : Hid (SparkO w2 u2.heap.size w2.heap.size (.slice ao3 ps.length cp3) ps) := (show SparkO w2 u2.heap.size w2.heap.size (.slice ao3 ps.length cp3) ps from (by have h := RowO.top hown; simpa [SparkO] using h))
               have lc2 := ((Lc.kept HKA.out).grown hgrow (HOA.out.not_block (Lc.kept HKA.out) (by simp)))
               have HLc2 : Hid (Loc w2 (w.heap.size + 1) [.int .i64 sd, .int .i64 st, .slice ao ps.length cap]) := lc2
               have HLe2 : Hid (Loc w2 w.heap.size [.int .i64 x, .int .i64 y, .int .i64 ev, .int .i64 bu, .int .i64 li, .int .i64 sv, .int .i64 fa]) := ((Le.kept HKA.out).grown hgrow (HOA.out.not_block (Le.kept HKA.out) (by simp)))
               have HLr2 : Hid (Loc w2 (w.heap.size + 1 + 1) [.int .i64 0, .int .i64 0, .slice none 0 0]) := ((Lr.kept HKA.out).grown hgrow (HOA.out.not_block (Lr.kept HKA.out) (by simp)))
               have HK2 : Hid (Kept w w2) := (K3.grown hgrow (by intro zz hzz; have := own_lt HOA.out.1 hzz; have := HU2.out; omega))
               have HZ2 : Hid (u2.heap.size ≤ w2.heap.size) := (Nat.le_trans HKA.out.size hgrow.size)
               have x2 := lc2.cell 2 rfl
               have y2 := lc2.frozen 2
               clear hown hgrow lc2 K3 c0 c1 c2)
            | go_values | go_skip | go_guarded | go_step | go_upon)
        refine bodyPost_ret (v := .tuple #[.agg #[.int .i64 0, .int .i64 0, .slice none 0 0], .bool false]) (by simp [results, Tryd.results9, go_sem, *]) rfl ?_
        exact ⟨_, rfl, cloud_zero _ _ _, ((K2.setNew (by simp +arith) _).setNew (by simp +arith) _).setNew (by simp +arith) _⟩

    · rw [runA_no (fun h => hC h.2.1)]
      have dC : decide (CloudP (sd, st, ps)) = false := decide_eq_false hC
      have e0 := Le.cell 0 rfl
      have e1 := Le.cell 1 rfl
      have e2 := Le.cell 2 rfl
      have e3 := Le.cell 3 rfl
      have e4 := Le.cell 4 rfl
      have e5 := Le.cell 5 rfl
      have e6 := Le.cell 6 rfl
      go_enter Tryd.func9, Tryd.ntmps9
      repeat (first | rw [← HW0.out] | go_values | go_skip | go_guarded | go_step | go_upon)
      go_at_call 29
      refine (sgoodE _ _ _ _ _ _ _ _).mono ?_
      rintro e u1 ⟨rfl, k1⟩
      rw [dE]
      have Le := Le.kept k1
      have Lc := Lc.kept k1
      have Lr := Lr.kept k1
      have K1 := K0.trans k1
      have s1 := k1.size
      clear k1 K0 e0 e1 e2 e3 e4 e5 e6
      have c0 := Lc.cell 0 rfl
      have c1 := Lc.cell 1 rfl
      have c2 := Lc.cell 2 rfl
      dsimp only
      repeat (first | go_values | go_skip | go_guarded | go_step | go_upon)
      go_at_call 30
      refine (sgoodC _ _ _ _ _ _ (hv.kept K1) (by omega)).mono ?_
      rintro e u2 ⟨rfl, k2⟩
      rw [dC]
      have Le := Le.kept k2
      have Lc := Lc.kept k2
      have Lr := Lr.kept k2
      have K2 := K1.trans k2
      have s2 := k2.size
      clear k2 K1 c0 c1 c2
      have c0 := Lc.cell 0 rfl
      have c1 := Lc.cell 1 rfl
      have c2 := Lc.cell 2 rfl
      have r0 := Lr.cell 0 rfl
      have r1 := Lr.cell 1 rfl
      have r2 := Lr.cell 2 rfl
      have z0 := Lr.frozen 0
      have z1 := Lr.frozen 1
      have z2 := Lr.frozen 2
      dsimp only
      repeat (first | go_values | go_skip | go_guarded | go_step | go_upon)
      refine bodyPost_ret (v := .tuple #[.agg #[.int .i64 0, .int .i64 0, .slice none 0 0], .bool false]) (by simp [results, Tryd.results9, go_sem, *]) rfl ?_
      exact ⟨_, rfl, cloud_zero _ _ _, ((K2.setNew (by simp +arith) _).setNew (by simp +arith) _).setNew (by simp +arith) _⟩

  · rw [runA_no (fun h => hE h.1)]
    have dE : decide (EmitP x y ev bu li sv fa) = false := decide_eq_false hE
    have e0 := Le.cell 0 rfl
    have e1 := Le.cell 1 rfl
    have e2 := Le.cell 2 rfl
    have e3 := Le.cell 3 rfl
    have e4 := Le.cell 4 rfl
    have e5 := Le.cell 5 rfl
    have e6 := Le.cell 6 rfl
    go_enter Tryd.func9, Tryd.ntmps9
    repeat (first | rw [← HW0.out] | go_values | go_skip | go_guarded | go_step | go_upon)
    go_at_call 29
    refine (sgoodE _ _ _ _ _ _ _ _).mono ?_
    rintro e u1 ⟨rfl, k1⟩
    rw [dE]
    have Le := Le.kept k1
    have Lc := Lc.kept k1
    have Lr := Lr.kept k1
    have K1 := K0.trans k1
    have s1 := k1.size
    clear k1 K0 e0 e1 e2 e3 e4 e5 e6
    have c0 := Lc.cell 0 rfl
    have c1 := Lc.cell 1 rfl
    have c2 := Lc.cell 2 rfl
    have r0 := Lr.cell 0 rfl
    have r1 := Lr.cell 1 rfl
    have r2 := Lr.cell 2 rfl
    have z0 := Lr.frozen 0
    have z1 := Lr.frozen 1
    have z2 := Lr.frozen 2
    dsimp only
    repeat (first | go_values | go_skip | go_guarded | go_step | go_upon)
    refine bodyPost_ret (v := .tuple #[.agg #[.int .i64 0, .int .i64 0, .slice none 0 0], .bool false]) (by simp [results, Tryd.results9, go_sem, *]) rfl ?_
    exact ⟨_, rfl, cloud_zero _ _ _, ((K1.setNew (by simp +arith) _).setNew (by simp +arith) _).setNew (by simp +arith) _⟩


end Go.Proofs.YtpeiblodefaajaaDoor
