/-
  A filter run: the specification.
-/
import Derived.Test.YtghmnhohdbombaaIRun16
import Derived.Test.YtghmnhohdbombaaClone16
namespace Go.Proofs.Ytghmnhohdbombaa
open Go.ChangeShapes Go.WideShapes Go.ChangeAt Go.RowKit Ieee

set_option maxRecDepth 100000
set_option linter.unusedVariables false
theorem step_spec (p : FilterD) (m : MemoryD) (x y a b : Nat) (hy : nrm y = yO p m.1 x) (ha : nrm a = aO p m.1 m.2 x) (hb : nrm b = bO p m.1 x) :
    stepM p m x = if fin y && fin a && fin b then some (plain y, plain a, plain b) else none := by
  unfold stepM
  rw [← finO_nrm y, ← finO_nrm a, ← finO_nrm b, hy, ha, hb]
  cases fy : finO (yO p m.1 x) with
  | false => rfl
  | true =>
    cases fa : finO (aO p m.1 m.2 x) with
    | false => rfl
    | true =>
      cases fb : finO (bO p m.1 x) with
      | false => rfl
      | true => rw [out_plain hy fy, out_plain ha fa, out_plain hb fb]
set_option maxHeartbeats 16000000 in
theorem srun (f0 f1 f2 f3 f4 s1 s2 : Nat) (hb0 : f0 < 18446744073709551616) (hb1 : f1 < 18446744073709551616) (hb2 : f2 < 18446744073709551616) (hb3 : f3 < 18446744073709551616) (hb4 : f4 < 18446744073709551616) (hs1 : s1 < 18446744073709551616) (hs2 : s2 < 18446744073709551616) (l : List Nat) (v : Value) (w : World) (hv : FltAt w v l) (hx : ∀ p ∈ l, p < 18446744073709551616) (hn : l.length ≤ 1048576) :
    Calls Try.prog 12 #[.agg #[.float .f64 f0, .float .f64 f1, .float .f64 f2, .float .f64 f3, .float .f64 f4], .agg #[.float .f64 s1, .float .f64 s2], v] w (RunAns (runF (f0, f1, f2, f3, f4) (s1, s2) l) w) := by
  obtain ⟨ao, cap, hsl⟩ := row_nil hv
  subst hsl
  have HV : Hid (FltAt w (.slice ao l.length cap) l) := hv
  clear hv
  go_enter Try.func12, Try.ntmps12
  repeat (first | go_values | go_skip | go_guarded | go_step | go_upon)
  go_at_call 13
  refine (sgoodF f0 f1 f2 f3 f4 hb0 hb1 hb2 hb3 hb4 _).mono ?_
  rintro e u1 ⟨rfl, k1⟩
  have K1 : Kept w u1 := But.trans (by (repeat (first | with_reducible exact But.refl _ _ _ | with_reducible apply But.drewN | with_reducible apply But.drew | with_reducible apply But.alloc))) k1
  have La : Loc u1 w.heap.size [.float .f64 f0, .float .f64 f1, .float .f64 f2, .float .f64 f3, .float .f64 f4] := (((Loc.new w [.float .f64 f0, .float .f64 f1, .float .f64 f2, .float .f64 f3, .float .f64 f4] 25).alloc _).alloc _).kept k1
  have Lm : Loc u1 (w.heap.size + 1) [.float .f64 s1, .float .f64 s2] := by
    have := ((Loc.new (w.alloc _) [.float .f64 s1, .float .f64 s2] 27).alloc _).kept k1
    simpa using this
  have Lr : Loc u1 (w.heap.size + 1 + 1) [.float .f64 0, .float .f64 0] := by
    have := (Loc.new ((w.alloc _).alloc _) [.float .f64 0, .float .f64 0] 27).kept k1
    simpa using this
  have s1' := k1.size
  simp only [World.size_alloc] at s1'
  clear k1
  rw [show (good f0 && good f1 && good f2 && good f3 && good f4) = goodF (f0, f1, f2, f3, f4) from rfl]
  cases hgF : goodF (f0, f1, f2, f3, f4) with
  | false =>
    (try dsimp only)
    have r0 := Lr.cell 0 rfl; have r1 := Lr.cell 1 rfl; have rf0 := Lr.frozen 0; have rf1 := Lr.frozen 1; skip
    repeat (first | go_values | go_skip | go_guarded | go_step | go_upon)
    refine bodyPost_ret (v := .tuple #[.slice none 0 0, .agg #[.float .f64 0, .float .f64 0], .bool false]) (by simp [results, Try.results12, go_sem, r0, r1]) rfl ?_
    have hR : runF (f0, f1, f2, f3, f4) (s1, s2) l = ([], (0, 0), false) := by simp [runF, goodM, *]
    rw [hR]
    exact ⟨.slice none 0 0, rfl, FltO.nil, by (repeat (first | with_reducible exact But.refl _ _ _ | with_reducible apply But.drewN | with_reducible apply But.drew | with_reducible exact K1 | with_reducible apply But.alloc | (with_reducible refine But.setNew ?_ (by simp; try omega) _)))⟩
  | true =>
    dsimp only
    have m0 := Lm.cell 0 rfl; have m1 := Lm.cell 1 rfl; have mf0 := Lm.frozen 0; have mf1 := Lm.frozen 1; skip
    repeat (first | go_values | go_skip | go_guarded | go_step | go_upon)
    go_at_call 48
    refine (specGood s1 hs1 _).mono ?_
    rintro e w1 ⟨rfl, rfl⟩
    cases hg1 : good s1 with
    | false =>
      (try dsimp only)
      have r0 := Lr.cell 0 rfl; have r1 := Lr.cell 1 rfl; have rf0 := Lr.frozen 0; have rf1 := Lr.frozen 1; skip
      repeat (first | go_values | go_skip | go_guarded | go_step | go_upon)
      refine bodyPost_ret (v := .tuple #[.slice none 0 0, .agg #[.float .f64 0, .float .f64 0], .bool false]) (by simp [results, Try.results12, go_sem, r0, r1]) rfl ?_
      have hR : runF (f0, f1, f2, f3, f4) (s1, s2) l = ([], (0, 0), false) := by simp [runF, goodM, *]
      rw [hR]
      exact ⟨.slice none 0 0, rfl, FltO.nil, by (repeat (first | with_reducible exact But.refl _ _ _ | with_reducible apply But.drewN | with_reducible apply But.drew | with_reducible exact K1 | with_reducible apply But.alloc | (with_reducible refine But.setNew ?_ (by simp; try omega) _)))⟩
    | true =>
      dsimp only
      have HG1 : Hid (good s1 = true) := hg1
      clear hg1
      repeat (first | go_values | go_skip | go_guarded | go_step | go_upon)
      go_at_call 48
      refine (specGood s2 hs2 _).mono ?_
      rintro e w1 ⟨rfl, rfl⟩
      cases hg2 : good s2 with
      | false =>
        (try dsimp only)
        have r0 := Lr.cell 0 rfl; have r1 := Lr.cell 1 rfl; have rf0 := Lr.frozen 0; have rf1 := Lr.frozen 1; skip
        repeat (first | go_values | go_skip | go_guarded | go_step | go_upon)
        refine bodyPost_ret (v := .tuple #[.slice none 0 0, .agg #[.float .f64 0, .float .f64 0], .bool false]) (by simp [results, Try.results12, go_sem, r0, r1]) rfl ?_
        have hR : runF (f0, f1, f2, f3, f4) (s1, s2) l = ([], (0, 0), false) := by simp [runF, goodM, *]
        rw [hR]
        exact ⟨.slice none 0 0, rfl, FltO.nil, by (repeat (first | with_reducible exact But.refl _ _ _ | with_reducible apply But.drewN | with_reducible apply But.drew | with_reducible exact K1 | with_reducible apply But.alloc | (with_reducible refine But.setNew ?_ (by simp; try omega) _)))⟩
      | true =>
        dsimp only
        have HG2 : Hid (good s2 = true) := hg2
        clear hg2
        repeat (first | go_values | go_skip | go_guarded | go_step | go_upon)
        go_at_call 49
        refine (sgoodR l _ _ (HV.out.kept K1) hx hn).mono ?_
        rintro e u3 ⟨rfl, k3⟩
        have K1 := K1.trans k3
        have La := La.kept k3
        have Lm := Lm.kept k3
        have Lr := Lr.kept k3
        have s3' := k3.size
        clear k3 m0 m1 mf0 mf1
        cases hgR : goodR l with
        | false =>
          (try dsimp only)
          have r0 := Lr.cell 0 rfl; have r1 := Lr.cell 1 rfl; have rf0 := Lr.frozen 0; have rf1 := Lr.frozen 1; skip
          repeat (first | go_values | go_skip | go_guarded | go_step | go_upon)
          refine bodyPost_ret (v := .tuple #[.slice none 0 0, .agg #[.float .f64 0, .float .f64 0], .bool false]) (by simp [results, Try.results12, go_sem, r0, r1]) rfl ?_
          have hR : runF (f0, f1, f2, f3, f4) (s1, s2) l = ([], (0, 0), false) := by simp [runF, goodM, *]
          rw [hR]
          exact ⟨.slice none 0 0, rfl, FltO.nil, by (repeat (first | with_reducible exact But.refl _ _ _ | with_reducible apply But.drewN | with_reducible apply But.drew | with_reducible exact K1 | with_reducible apply But.alloc | (with_reducible refine But.setNew ?_ (by simp; try omega) _)))⟩
        | true =>
          dsimp only
          have hg1 := HG1.out
          have hg2 := HG2.out
          obtain ⟨i0, hi0, hz0, hz1, hz2⟩ := info_parts info23
          obtain ⟨B, hB⟩ : ∃ B, w.heap.size + 1 + 1 + 1 = B := ⟨_, rfl⟩
          have hBw : w.heap.size + 1 + 1 < B := by omega
          have hl64 : l.length ≤ 64 := by simp only [goodR, Bool.and_eq_true, decide_eq_true_eq] at hgR; exact hgR.1
          have HL : Hid (Loc u3 w.heap.size [.float .f64 f0, .float .f64 f1, .float .f64 f2, .float .f64 f3, .float .f64 f4] ∧ Loc u3 (w.heap.size + 1) [.float .f64 s1, .float .f64 s2] ∧ Loc u3 (w.heap.size + 1 + 1) [.float .f64 0, .float .f64 0]) := ⟨La, Lm, Lr⟩
          have HK : Hid (Kept w u3) := K1
          have HG : Hid (GoodB s1 ∧ GoodB s2) := ⟨⟨hg1, hs1⟩, ⟨hg2, hs2⟩⟩
          have HR : Hid ((∀ q, runM (f0, f1, f2, f3, f4) (s1, s2) l = some q → runF (f0, f1, f2, f3, f4) (s1, s2) l = (q.1, q.2, true)) ∧ (runM (f0, f1, f2, f3, f4) (s1, s2) l = none → runF (f0, f1, f2, f3, f4) (s1, s2) l = ([], (0, 0), false))) := by
            constructor
            · intro q hq; simp only [runF, goodM, hgF, hg1, hg2, hgR, Bool.and_self, if_true, hq]
            · intro hq; simp only [runF, goodM, hgF, hg1, hg2, hgR, Bool.and_self, if_true, hq]
          have hBu : B ≤ u3.heap.size := by omega
          clear La Lm Lr K1 hgF hg1 hg2 hgR
          repeat (first | go_values | go_skip | go_guarded | go_step | go_upon)
          go_loopw [9, 44] (fun x i wr => ∃ (k : Nat) (q : List Nat × MemoryD) (ao5 : Option Addr) (c5 : Nat), k ≤ l.length ∧ i = .int .i64 k ∧ x = .slice ao5 k c5 ∧ Hid (runM (f0, f1, f2, f3, f4) (s1, s2) (l.take k) = some q) ∧ Hid (GoodB q.2.1 ∧ GoodB q.2.2) ∧ Hid (Loc wr w.heap.size [.float .f64 f0, .float .f64 f1, .float .f64 f2, .float .f64 f3, .float .f64 f4]) ∧ Hid (Loc wr (w.heap.size + 1) [.float .f64 q.2.1, .float .f64 q.2.2]) ∧ Hid (Loc wr (w.heap.size + 1 + 1) [.float .f64 0, .float .f64 0]) ∧ Hid (wr.ownsRow B 23 1 (.slice ao5 k c5) k (q.1.flatMap fltC)) ∧ Hid (Kept w wr) ∧ B ≤ wr.heap.size) (fun x i _ => l.length - (intOf i).toNat)
          case atStart =>
            exact ⟨0, ([], (s1, s2)), none, 0, by omega, rfl, rfl, (rfl : runM (f0, f1, f2, f3, f4) (s1, s2) [] = _), HG, HL.out.1, HL.out.2.1, HL.out.2.2, (World.ownsRow_nil _ _ _ _ : World.ownsRow _ _ _ _ _ _ _), HK, by omega⟩
          case round =>
            obtain ⟨k, q, ao5, c5, hk, rfl, rfl, HQ, HGq, HLa, HLm, HLr, HRow, HKr, hBr⟩ := hrel
            have hql : q.1.length = k := by have := run_len _ _ _ _ HQ.out; rw [this]; simp; omega
            have HQL : Hid (q.1.length = k) := hql
            clear hql
            by_cases hlt : k < l.length
            · obtain ⟨x, hxk⟩ : ∃ x, l[k]? = some x := ⟨_, List.getElem?_eq_getElem hlt⟩
              obtain ⟨b, o, cap', e, c0⟩ := flt_get (HV.out.kept HKr.out) hxk
              cases e
              have HX : Hid (l[k]? = some x) := hxk
              clear hxk
              have La := HLa.out
              have Lm := HLm.out
              have a0 := La.cell 0 rfl; have a1 := La.cell 1 rfl; have a2 := La.cell 2 rfl; have a3 := La.cell 3 rfl; have a4 := La.cell 4 rfl; have af0 := La.frozen 0; have af1 := La.frozen 1; have af2 := La.frozen 2; have af3 := La.frozen 3; have af4 := La.frozen 4; have m0 := Lm.cell 0 rfl; have m1 := Lm.cell 1 rfl; have mf0 := Lm.frozen 0; have mf1 := Lm.frozen 1; clear La Lm
              repeat (first | go_values | go_skip | go_guarded | go_step | go_upon)
              generalize hP : fop .mul (tok wr) f0 x = P
              generalize hn1 : nd .mul f0 x = n1
              generalize hY : fop .add ((tok wr).adv (n1)) P q.2.1 = Y
              generalize hn2 : nd .add P q.2.1 = n2
              generalize hQ9 : fop .mul ((tok wr).adv (n1 + n2)) f1 x = Q9
              generalize hn3 : nd .mul f1 x = n3
              generalize hR9 : fop .mul ((tok wr).adv (n1 + n2 + n3)) f3 Y = R9
              generalize hn4 : nd .mul f3 Y = n4
              generalize hD9 : fop .sub ((tok wr).adv (n1 + n2 + n3 + n4)) Q9 R9 = D9
              generalize hn5 : nd .sub Q9 R9 = n5
              generalize hS9 : fop .add ((tok wr).adv (n1 + n2 + n3 + n4 + n5)) D9 q.2.2 = S9
              generalize hn6 : nd .add D9 q.2.2 = n6
              generalize hT9 : fop .mul ((tok wr).adv (n1 + n2 + n3 + n4 + n5 + n6)) f2 x = T9
              generalize hn7 : nd .mul f2 x = n7
              generalize hU9 : fop .mul ((tok wr).adv (n1 + n2 + n3 + n4 + n5 + n6 + n7)) f4 Y = U9
              generalize hn8 : nd .mul f4 Y = n8
              generalize hV9 : fop .sub ((tok wr).adv (n1 + n2 + n3 + n4 + n5 + n6 + n7 + n8)) T9 U9 = V9
              generalize hn9 : nd .sub T9 U9 = n9
              have lY : Y < 18446744073709551616 := by rw [← hY]; exact fop_lt _ _ _ _
              have lS : S9 < 18446744073709551616 := by rw [← hS9]; exact fop_lt _ _ _ _
              have lV : V9 < 18446744073709551616 := by rw [← hV9]; exact fop_lt _ _ _ _
              have eY : nrm Y = yO (f0, f1, f2, f3, f4) q.2.1 x := by rw [← hY, nrm_fop, ← hP, nrm_fop]; rfl
              have eS : nrm S9 = aO (f0, f1, f2, f3, f4) q.2.1 q.2.2 x := by rw [← hS9, nrm_fop, ← hD9, nrm_fop, ← hQ9, nrm_fop, ← hR9, nrm_fop, eY]; rfl
              have eV : nrm V9 = bO (f0, f1, f2, f3, f4) q.2.1 x := by rw [← hV9, nrm_fop, ← hT9, nrm_fop, ← hU9, nrm_fop, eY]; rfl
              have hst := step_spec (f0, f1, f2, f3, f4) q.2 x Y S9 V9 eY eS eV
              have HST : Hid (stepM (f0, f1, f2, f3, f4) q.2 x = if fin Y && fin S9 && fin V9 then some (plain Y, plain S9, plain V9) else none) := hst
              have hd := But.drewN (But.refl 0 0 wr) (n1 + n2 + n3 + n4 + n5 + n6 + n7 + n8 + n9)
              generalize wr.drewN (n1 + n2 + n3 + n4 + n5 + n6 + n7 + n8 + n9) = W5 at hd ⊢
              have s5 := hd.size
              have HKr : Hid (Kept w W5) := HKr.out.trans hd
              have HLa : Hid (Loc W5 w.heap.size [.float .f64 f0, .float .f64 f1, .float .f64 f2, .float .f64 f3, .float .f64 f4]) := HLa.out.kept hd
              have HLm : Hid (Loc W5 (w.heap.size + 1) [.float .f64 q.2.1, .float .f64 q.2.2]) := HLm.out.kept hd
              have HLr : Hid (Loc W5 (w.heap.size + 1 + 1) [.float .f64 0, .float .f64 0]) := HLr.out.kept hd
              have HRow : Hid (W5.ownsRow B 23 1 (.slice ao5 k c5) k (q.1.flatMap fltC)) := own_kept HRow.out hd
              clear hst hd eY eS eV hP hn1 hY hn2 hQ9 hn3 hR9 hn4 hD9 hn5 hS9 hn6 hT9 hn7 hU9 hn8 hV9 hn9
              clear a0 af0 a1 af1 a2 af2 a3 af3 a4 af4 m0 m1 mf0 mf1 c0
              refine (l2Finite Y lY _).mono ?_
              rintro e w1 ⟨rfl, rfl⟩
              cases hfY : fin Y with
              | false =>
                have K1 := HKr.out
                have Lr := HLr.out
                (try dsimp only)
                have r0 := Lr.cell 0 rfl; have r1 := Lr.cell 1 rfl; have rf0 := Lr.frozen 0; have rf1 := Lr.frozen 1; skip
                repeat (first | go_values | go_skip | go_guarded | go_step | go_upon)
                refine bodyPost_ret (v := .tuple #[.slice none 0 0, .agg #[.float .f64 0, .float .f64 0], .bool false]) (by simp [results, Try.results12, go_sem, r0, r1]) rfl ?_
                have hnone : runM (f0, f1, f2, f3, f4) (s1, s2) (l.take (k + 1)) = none := by
                  rw [take_snoc HX.out, runM_snoc, HQ.out, Option.bind_some, HST.out]
                  simp [hfY]
                have hR := HR.out.2 (runM_none _ _ _ _ hnone)
                rw [hR]
                exact ⟨.slice none 0 0, rfl, FltO.nil, by (repeat (first | with_reducible exact But.refl _ _ _ | with_reducible apply But.drewN | with_reducible apply But.drew | with_reducible exact K1 | with_reducible apply But.alloc | (with_reducible refine But.setNew ?_ (by simp; try omega) _)))⟩
              | true =>
                dsimp only
                have HFY : Hid (fin Y = true) := hfY
                clear hfY
                repeat (first | go_values | go_skip | go_guarded | go_step | go_upon)
                go_at_call 50
                refine (l2Finite S9 lS _).mono ?_
                rintro e w1 ⟨rfl, rfl⟩
                cases hfS : fin S9 with
                | false =>
                  have K1 := HKr.out
                  have Lr := HLr.out
                  (try dsimp only)
                  have r0 := Lr.cell 0 rfl; have r1 := Lr.cell 1 rfl; have rf0 := Lr.frozen 0; have rf1 := Lr.frozen 1; skip
                  repeat (first | go_values | go_skip | go_guarded | go_step | go_upon)
                  refine bodyPost_ret (v := .tuple #[.slice none 0 0, .agg #[.float .f64 0, .float .f64 0], .bool false]) (by simp [results, Try.results12, go_sem, r0, r1]) rfl ?_
                  have hnone : runM (f0, f1, f2, f3, f4) (s1, s2) (l.take (k + 1)) = none := by
                    rw [take_snoc HX.out, runM_snoc, HQ.out, Option.bind_some, HST.out]
                    simp [hfS]
                  have hR := HR.out.2 (runM_none _ _ _ _ hnone)
                  rw [hR]
                  exact ⟨.slice none 0 0, rfl, FltO.nil, by (repeat (first | with_reducible exact But.refl _ _ _ | with_reducible apply But.drewN | with_reducible apply But.drew | with_reducible exact K1 | with_reducible apply But.alloc | (with_reducible refine But.setNew ?_ (by simp; try omega) _)))⟩
                | true =>
                  dsimp only
                  have HFS : Hid (fin S9 = true) := hfS
                  clear hfS
                  repeat (first | go_values | go_skip | go_guarded | go_step | go_upon)
                  go_at_call 50
                  refine (l2Finite V9 lV _).mono ?_
                  rintro e w1 ⟨rfl, rfl⟩
                  cases hfV : fin V9 with
                  | false =>
                    have K1 := HKr.out
                    have Lr := HLr.out
                    (try dsimp only)
                    have r0 := Lr.cell 0 rfl; have r1 := Lr.cell 1 rfl; have rf0 := Lr.frozen 0; have rf1 := Lr.frozen 1; skip
                    repeat (first | go_values | go_skip | go_guarded | go_step | go_upon)
                    refine bodyPost_ret (v := .tuple #[.slice none 0 0, .agg #[.float .f64 0, .float .f64 0], .bool false]) (by simp [results, Try.results12, go_sem, r0, r1]) rfl ?_
                    have hnone : runM (f0, f1, f2, f3, f4) (s1, s2) (l.take (k + 1)) = none := by
                      rw [take_snoc HX.out, runM_snoc, HQ.out, Option.bind_some, HST.out]
                      simp [hfV]
                    have hR := HR.out.2 (runM_none _ _ _ _ hnone)
                    rw [hR]
                    exact ⟨.slice none 0 0, rfl, FltO.nil, by (repeat (first | with_reducible exact But.refl _ _ _ | with_reducible apply But.drewN | with_reducible apply But.drew | with_reducible exact K1 | with_reducible apply But.alloc | (with_reducible refine But.setNew ?_ (by simp; try omega) _)))⟩
                  | true =>
                    dsimp only
                    have hstep : runM (f0, f1, f2, f3, f4) (s1, s2) (l.take (k + 1)) = some (q.1 ++ [plain Y], (plain S9, plain V9)) := by
                      rw [take_snoc HX.out, runM_snoc, HQ.out, Option.bind_some, HST.out, HFY.out, HFS.out, hfV]
                      rfl
                    have HS2 : Hid (runM (f0, f1, f2, f3, f4) (s1, s2) (l.take (k + 1)) = some (q.1 ++ [plain Y], (plain S9, plain V9))) := hstep
                    have HG2 : Hid (GoodB (plain S9) ∧ GoodB (plain V9)) := ⟨⟨by rw [good_plain lS]; exact HFS.out, plain_lt lS⟩, ⟨by rw [good_plain lV]; exact hfV, plain_lt lV⟩⟩
                    clear hfV hstep HST HFY HFS
                    have Lm := HLm.out
                    have m0 := Lm.cell 0 rfl; have m1 := Lm.cell 1 rfl; have mf0 := Lm.frozen 0; have mf1 := Lm.frozen 1; clear Lm
                    repeat (first | (go_at_call 51; refine (l2Plain _ _).mono ?_; rintro e w1 ⟨rfl, rfl⟩; dsimp only) | (at_builtin; refine forgetL (fun w' => w' = _) rfl ?_) | go_values | go_skip | go_guarded | go_step | go_upon)
                    intro W7 hW7
                    have hb8 : w.heap.size + 1 + 1 ≤ w1.heap.size := by omega
                    have kset : But (w.heap.size + 1) (w.heap.size + 1 + 1) w1 ((w1.setCell ⟨w.heap.size + 1, 0, none⟩ (.float .f64 (plain S9))).setCell ⟨w.heap.size + 1, 1, none⟩ (.float .f64 (plain V9))) := ((But.refl _ _ _).setCell (by simp) (by simp) _).setCell (by simp) (by simp) _
                    have k7a : But (w.heap.size + 1) (w.heap.size + 1 + 1) w1 W7 := by rw [hW7]; exact kset.alloc _
                    have N7 : Loc W7 w1.heap.size [.float .f64 (plain Y)] := by
                      rw [hW7]
                      have := Loc.new ((w1.setCell ⟨w.heap.size + 1, 0, none⟩ (.float .f64 (plain S9))).setCell ⟨w.heap.size + 1, 1, none⟩ (.float .f64 (plain V9))) [.float .f64 (plain Y)] 23
                      simpa using this
                    have hLm7 : Loc W7 (w.heap.size + 1) [.float .f64 (plain S9), .float .f64 (plain V9)] := by
                      rw [hW7]
                      exact ((HLm.out.set 0 (.float .f64 (plain S9))).set 1 (.float .f64 (plain V9))).alloc _
                    have hLa7 := HLa.out.but k7a (by omega)
                    have hLr7 := HLr.out.but k7a (by omega)
                    have hRow7 := own_but HRow.out k7a (fun g hg => by have := own_lt HRow.out hg; omega)
                    have hK7 : Kept w W7 := by rw [hW7]; exact ((HKr.out.setNew (by simp) _).setNew (by simp) _).alloc _
                    have s7 := k7a.size
                    have s7e : W7.heap.size = w1.heap.size + 1 := by rw [hW7]; simp
                    clear hW7 kset k7a HLa HLm HLr HRow HKr m0 m1 mf0 mf1
                    refine wpList_append_own _ rfl _ _ 28 rfl B 23 i0 (.float .f64 0) 1 8 Try.underlying28 hi0 hz0 hz1 hz2 rfl (by decide) (.slice ao5 k c5) k (q.1.flatMap fltC) rfl hRow7 ⟨w1.heap.size, 0, none⟩ 1 1 [.float .f64 (plain Y)] rfl rfl (news1 N7) (by simp [Value.oneCell']) (by unfold maxLen; omega) (by omega) (by omega) ?_
                    intro v' w8 hown' hgrow _
                    obtain ⟨ao6, c6, hf6, _⟩ := own_form hown'
                    subst hf6
                    have hne : ∀ b, b < B → (Value.slice ao5 k c5).ownBlock ≠ some b := fun b hb e => by have := own_lt hRow7 e; omega
                    have HLa : Hid (Loc w8 w.heap.size [.float .f64 f0, .float .f64 f1, .float .f64 f2, .float .f64 f3, .float .f64 f4]) := hLa7.grown hgrow (hne _ (by omega))
                    have HLm : Hid (Loc w8 (w.heap.size + 1) [.float .f64 (plain S9), .float .f64 (plain V9)]) := hLm7.grown hgrow (hne _ (by omega))
                    have HLr : Hid (Loc w8 (w.heap.size + 1 + 1) [.float .f64 0, .float .f64 0]) := hLr7.grown hgrow (hne _ (by omega))
                    have HKr : Hid (Kept w w8) := hK7.grown hgrow (fun x hx => by have := own_lt hRow7 hx; omega)
                    have HRow : Hid (w8.ownsRow B 23 1 (.slice ao6 (k + 1) c6) (k + 1) ((q.1 ++ [plain Y]).flatMap fltC)) := by
                      have : w8.ownsRow B 23 1 (.slice ao6 (k + 1) c6) (k + 1) ((q.1 ++ [plain Y]).flatMap fltC) := by
                        rw [List.flatMap_append]; exact hown'
                      exact this
                    have s8 := hgrow.size
                    clear hown' hgrow hLa7 hLm7 hLr7 hRow7 hK7 N7 hne
                    dsimp only
                    repeat (first | go_values | go_skip | go_guarded | go_step | go_upon)
                    exact ⟨⟨k + 1, (q.1 ++ [plain Y], (plain S9, plain V9)), ao6, c6, hlt, by go_num, rfl, HS2, HG2, HLa, HLm, HLr, HRow, HKr, by omega⟩, by simp [intOf]; omega⟩
            · have hke : k = l.length := by omega
              subst hke
              have hq := HQ.out
              rw [List.take_length] at hq
              have HR2 : Hid (runF (f0, f1, f2, f3, f4) (s1, s2) l = (q.1, q.2, true)) := HR.out.1 q hq
              clear hq
              have Lm := HLm.out
              have Lr := HLr.out
              have m0 := Lm.cell 0 rfl; have m1 := Lm.cell 1 rfl; have mf0 := Lm.frozen 0; have mf1 := Lm.frozen 1; have r0 := Lr.cell 0 rfl; have r1 := Lr.cell 1 rfl; have rf0 := Lr.frozen 0; have rf1 := Lr.frozen 1; clear Lm Lr
              repeat (first | go_values | go_skip | go_guarded | go_step | go_upon)
              go_region
              all_goals
                repeat (first | go_values | go_skip | go_guarded | go_step | go_upon)
                refine bodyPost_ret (v := .tuple #[.slice ao5 l.length c5, .agg #[.float .f64 q.2.1, .float .f64 q.2.2], .bool true]) (by simp [results, Try.results12, go_sem, r0, r1]) rfl ?_
                rw [HR2.out]
                have hrow : FltO wr B wr.heap.size (.slice ao5 l.length c5) q.1 := by
                  have := RowO.top HRow.out
                  unfold FltO
                  rw [HQL.out]
                  exact this
                exact ⟨_, rfl, ((hrow.but (lo' := w.heap.size + 1 + 1) (hi' := w.heap.size + 1 + 1 + 1) (by (repeat (first | with_reducible exact But.refl _ _ _ | with_reducible apply But.drewN | with_reducible apply But.drew | (with_reducible refine But.setCell ?_ (by simp) (by simp) _)))) (by omega)).mono (by omega) (Nat.le_refl _)).low, by (repeat (first | with_reducible exact HKr.out | with_reducible apply But.drewN | with_reducible apply But.drew | (with_reducible refine But.setNew ?_ (by simp; try omega) _)))⟩

end Go.Proofs.Ytghmnhohdbombaa
