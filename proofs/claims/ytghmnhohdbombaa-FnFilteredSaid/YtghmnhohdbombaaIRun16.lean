/-
  A filter run: the program.
-/
import Derived.Test.YtghmnhohdbombaaSamp16
namespace Go.Proofs.Ytghmnhohdbombaa
open Go.ChangeShapes Go.WideShapes Go.ChangeAt Go.RowKit Ieee

set_option maxRecDepth 100000
set_option linter.unusedVariables false
theorem FltO.nil {w : World} {lo hi : Nat} : FltO w lo hi (.slice none 0 0) [] := ⟨⟨rfl, .inl ⟨rfl, rfl⟩⟩, fun g hg => by simp [Value.ownBlock] at hg⟩
theorem fillq_get (q : List Nat) (n k : Nat) (h : q.length = k) (hk : k < n) : (q ++ List.replicate (n - k) 0)[k]? = some 0 := by
  rw [List.getElem?_append_right (by omega), List.getElem?_replicate, if_pos (by omega)]
theorem fillq_set (q : List Nat) (n k y : Nat) (h : q.length = k) (hk : k < n) : (q ++ List.replicate (n - k) 0).set k y = (q ++ [y]) ++ List.replicate (n - (k + 1)) 0 := by
  rw [List.set_append_right _ _ (by omega), h, Nat.sub_self, show n - k = (n - (k + 1)) + 1 by omega, List.replicate_succ, List.set_cons_zero, List.append_assoc]
  rfl
theorem fillq_len (q : List Nat) (n k : Nat) (h : q.length = k) (hk : k ≤ n) : (q ++ List.replicate (n - k) 0).length = n := by simp; omega
def RunAns (r : List Nat × MemoryD × Bool) (w : World) (e : Ending) (w' : World) : Prop := ∃ v', e = .returned (.tuple #[v', .agg #[.float .f64 r.2.1.1, .float .f64 r.2.1.2], .bool r.2.2]) ∧ FltO w' w.heap.size w'.heap.size v' r.1 ∧ Kept w w'
set_option maxHeartbeats 8000000 in
theorem irun (f0 f1 f2 f3 f4 s1 s2 : Nat) (hb0 : f0 < 18446744073709551616) (hb1 : f1 < 18446744073709551616) (hb2 : f2 < 18446744073709551616) (hb3 : f3 < 18446744073709551616) (hb4 : f4 < 18446744073709551616) (hs1 : s1 < 18446744073709551616) (hs2 : s2 < 18446744073709551616) (l : List Nat) (v : Value) (w : World) (hv : FltAt w v l) (hx : ∀ p ∈ l, p < 18446744073709551616) (hn : l.length ≤ 1048576) :
    Calls Try.prog 11 #[.agg #[.float .f64 f0, .float .f64 f1, .float .f64 f2, .float .f64 f3, .float .f64 f4], .agg #[.float .f64 s1, .float .f64 s2], v] w (RunAns (runF (f0, f1, f2, f3, f4) (s1, s2) l) w) := by
  obtain ⟨ao, cap, hsl⟩ := row_nil hv
  subst hsl
  have HV : Hid (FltAt w (.slice ao l.length cap) l) := hv
  clear hv
  go_enter Try.func11, Try.ntmps11
  repeat (first | go_values | go_skip | go_guarded | go_step | go_upon)
  go_at_call 15
  refine (igoodF f0 f1 f2 f3 f4 hb0 hb1 hb2 hb3 hb4 _).mono ?_
  rintro e u1 ⟨rfl, k1⟩
  have K1 : Kept w u1 := But.trans (by (repeat (first | with_reducible exact But.refl _ _ _ | with_reducible apply But.drewN | with_reducible apply But.drew | with_reducible apply But.alloc))) k1
  have La : Loc u1 w.heap.size [.float .f64 f0, .float .f64 f1, .float .f64 f2, .float .f64 f3, .float .f64 f4] := (((Loc.new w [.float .f64 f0, .float .f64 f1, .float .f64 f2, .float .f64 f3, .float .f64 f4] 25).alloc _).alloc _).kept k1
  have Lm : Loc u1 (w.heap.size + 1) [.float .f64 s1, .float .f64 s2] := by
    have := ((Loc.new (w.alloc _) [.float .f64 s1, .float .f64 s2] 27).alloc _).kept k1
    simpa using this
  have Lr : Loc u1 (w.heap.size + 1 + 1) [.float .f64 0, .float .f64 0] := by
    have := (Loc.new ((w.alloc _).alloc _) [.float .f64 0, .float .f64 0] 27).kept k1
    simpa using this
  have s1' := k1.size
  simp only [World.size_alloc] at s1'
  clear k1
  rw [show (good f0 && good f1 && good f2 && good f3 && good f4) = goodF (f0, f1, f2, f3, f4) from rfl]
  cases hgF : goodF (f0, f1, f2, f3, f4) with
  | false =>
    dsimp only
    have r0 := Lr.cell 0 rfl; have r1 := Lr.cell 1 rfl; have rf0 := Lr.frozen 0; have rf1 := Lr.frozen 1; skip
    repeat (first | go_values | go_skip | go_guarded | go_step | go_upon)
    refine bodyPost_ret (v := .tuple #[.slice none 0 0, .agg #[.float .f64 0, .float .f64 0], .bool false]) (by simp [results, Try.results11, go_sem, r0, r1]) rfl ?_
    have hR : runF (f0, f1, f2, f3, f4) (s1, s2) l = ([], (0, 0), false) := by simp [runF, *]
    rw [hR]
    exact ⟨.slice none 0 0, rfl, FltO.nil, by (repeat (first | with_reducible exact But.refl _ _ _ | with_reducible apply But.drewN | with_reducible apply But.drew | with_reducible exact K1 | with_reducible apply But.alloc | (with_reducible refine But.setNew ?_ (by simp; try omega) _)))⟩
  | true =>
    dsimp only
    have m0 := Lm.cell 0 rfl; have m1 := Lm.cell 1 rfl; have mf0 := Lm.frozen 0; have mf1 := Lm.frozen 1; skip
    repeat (first | go_values | go_skip | go_guarded | go_step | go_upon)
    go_at_call 45
    refine (igoodM s1 s2 hs1 hs2 _).mono ?_
    rintro e u2 ⟨rfl, k2⟩
    have K1 := K1.trans k2
    have La := La.kept k2
    have Lm := Lm.kept k2
    have Lr := Lr.kept k2
    have s2' := k2.size
    clear k2 m0 m1 mf0 mf1
    rw [show (good s1 && good s2) = goodM (s1, s2) from rfl]
    cases hgM : goodM (s1, s2) with
    | false =>
      dsimp only
      have r0 := Lr.cell 0 rfl; have r1 := Lr.cell 1 rfl; have rf0 := Lr.frozen 0; have rf1 := Lr.frozen 1; skip
      repeat (first | go_values | go_skip | go_guarded | go_step | go_upon)
      refine bodyPost_ret (v := .tuple #[.slice none 0 0, .agg #[.float .f64 0, .float .f64 0], .bool false]) (by simp [results, Try.results11, go_sem, r0, r1]) rfl ?_
      have hR : runF (f0, f1, f2, f3, f4) (s1, s2) l = ([], (0, 0), false) := by simp [runF, *]
      rw [hR]
      exact ⟨.slice none 0 0, rfl, FltO.nil, by (repeat (first | with_reducible exact But.refl _ _ _ | with_reducible apply But.drewN | with_reducible apply But.drew | with_reducible exact K1 | with_reducible apply But.alloc | (with_reducible refine But.setNew ?_ (by simp; try omega) _)))⟩
    | true =>
      dsimp only
      repeat (first | go_values | go_skip | go_guarded | go_step | go_upon)
      go_at_call 46
      refine (igoodR l _ _ (HV.out.kept K1) hx hn).mono ?_
      rintro e u3 ⟨rfl, k3⟩
      have K1 := K1.trans k3
      have La := La.kept k3
      have Lm := Lm.kept k3
      have Lr := Lr.kept k3
      have s3' := k3.size
      clear k3
      cases hgR : goodR l with
      | false =>
        dsimp only
        have r0 := Lr.cell 0 rfl; have r1 := Lr.cell 1 rfl; have rf0 := Lr.frozen 0; have rf1 := Lr.frozen 1; skip
        repeat (first | go_values | go_skip | go_guarded | go_step | go_upon)
        refine bodyPost_ret (v := .tuple #[.slice none 0 0, .agg #[.float .f64 0, .float .f64 0], .bool false]) (by simp [results, Try.results11, go_sem, r0, r1]) rfl ?_
        have hR : runF (f0, f1, f2, f3, f4) (s1, s2) l = ([], (0, 0), false) := by simp [runF, *]
        rw [hR]
        exact ⟨.slice none 0 0, rfl, FltO.nil, by (repeat (first | with_reducible exact But.refl _ _ _ | with_reducible apply But.drewN | with_reducible apply But.drew | with_reducible exact K1 | with_reducible apply But.alloc | (with_reducible refine But.setNew ?_ (by simp; try omega) _)))⟩
      | true =>
        dsimp only
        obtain ⟨i0, hi, hz0, hz1, hz2⟩ := info_parts info23
        obtain ⟨W4, hW4⟩ : ∃ W, W = u3.alloc (.cells (madeCells #[.float .f64 0] (l.length * 1)) 23) := ⟨_, rfl⟩
        have hmk : (Instr.makeSlice 28 (.int .i64 (l.length : Int)) (.int .i64 (l.length : Int))).run Try.prog u3 = .ok (.slice (some ⟨u3.heap.size, 0, none⟩) l.length l.length) W4 := by
          have := run_make (P := Try.prog) u3 28 23 i0 _ Try.underlying28 hi hz0 .i64 .i64 (l.length : Int) (l.length : Int) (by omega) (by omega) (by rw [hz2]; omega) (by omega)
          rw [this, hz1, hW4]
          simp [Value.cells]
        have hm := row_made u3 u3.heap.size 23 #[.float .f64 0] 1 (by omega) fltC flt0 fltC_len rfl l.length (Nat.le_refl _) (by unfold maxLen; omega)
        rw [← hW4] at hm
        have k4 : Kept u3 W4 := by rw [hW4]; exact (But.refl _ _ _).alloc _
        have s4' : W4.heap.size = u3.heap.size + 1 := by rw [hW4]; simp
        have Hrow : Hid (FltO W4 u3.heap.size (u3.heap.size + 1) (.slice (some ⟨u3.heap.size, 0, none⟩) l.length l.length) (List.replicate l.length 0)) := by
          have : FltO W4 u3.heap.size (u3.heap.size + 1) (.slice (some ⟨u3.heap.size, 0, none⟩) l.length l.length) (List.replicate l.length flt0) := by simpa [FltO] using hm
          exact this
        have HL : Hid (Loc W4 w.heap.size [.float .f64 f0, .float .f64 f1, .float .f64 f2, .float .f64 f3, .float .f64 f4] ∧ Loc W4 (w.heap.size + 1) [.float .f64 s1, .float .f64 s2] ∧ Loc W4 (w.heap.size + 1 + 1) [.float .f64 0, .float .f64 0]) := ⟨La.kept k4, Lm.kept k4, Lr.kept k4⟩
        have HK : Hid (Kept w W4) := K1.trans k4
        obtain ⟨B, hB⟩ : ∃ B, u3.heap.size = B := ⟨_, rfl⟩
        have hBw : w.heap.size + 1 + 1 < B := by omega
        rw [hB] at Hrow hmk s4'
        have HG : Hid (GoodB s1 ∧ GoodB s2) := by
          simp only [goodM, Bool.and_eq_true] at hgM
          exact ⟨⟨hgM.1, hs1⟩, ⟨hgM.2, hs2⟩⟩
        have HR : Hid ((∀ q, runM (f0, f1, f2, f3, f4) (s1, s2) l = some q → runF (f0, f1, f2, f3, f4) (s1, s2) l = (q.1, q.2, true)) ∧ (runM (f0, f1, f2, f3, f4) (s1, s2) l = none → runF (f0, f1, f2, f3, f4) (s1, s2) l = ([], (0, 0), false))) := by
          constructor
          · intro q hq; simp only [runF, hgF, hgM, hgR, Bool.and_self, if_true, hq]
          · intro hq; simp only [runF, hgF, hgM, hgR, Bool.and_self, if_true, hq]
        clear hi hz0 hz1 hz2 hm k4 La Lm Lr K1 hW4 hgF hgM hgR
        repeat (first | go_values | go_skip | go_guarded | go_step | go_upon)
        clear hmk
        go_loopw [31] (fun i wr => ∃ (k : Nat) (q : List Nat × MemoryD), k ≤ l.length ∧ i = .int .i64 k ∧ Hid (runM (f0, f1, f2, f3, f4) (s1, s2) (l.take k) = some q) ∧ Hid (GoodB q.2.1 ∧ GoodB q.2.2) ∧ Hid (Loc wr w.heap.size [.float .f64 f0, .float .f64 f1, .float .f64 f2, .float .f64 f3, .float .f64 f4]) ∧ Hid (Loc wr (w.heap.size + 1) [.float .f64 q.2.1, .float .f64 q.2.2]) ∧ Hid (Loc wr (w.heap.size + 1 + 1) [.float .f64 0, .float .f64 0]) ∧ Hid (FltO wr B (B + 1) (.slice (some ⟨B, 0, none⟩) l.length l.length) (q.1 ++ List.replicate (l.length - k) 0)) ∧ Hid (Kept w wr) ∧ B < wr.heap.size) (fun i _ => l.length - (intOf i).toNat)
        case atStart =>
          exact ⟨0, ([], (s1, s2)), by omega, rfl, (rfl : runM (f0, f1, f2, f3, f4) (s1, s2) [] = _), HG, HL.out.1, HL.out.2.1, HL.out.2.2, (by simpa using Hrow.out : FltO _ _ _ _ _), HK, by omega⟩
        case round =>
          obtain ⟨k, q, hk, rfl, HQ, HGq, HLa, HLm, HLr, HRow, HKr, hBr⟩ := hrel
          have hql : q.1.length = k := by have := run_len _ _ _ _ HQ.out; rw [this]; simp; omega
          have HQL : Hid (q.1.length = k) := hql
          clear hql
          by_cases hlt : k < l.length
          · obtain ⟨x, hxk⟩ : ∃ x, l[k]? = some x := ⟨_, List.getElem?_eq_getElem hlt⟩
            obtain ⟨b, o, cap', e, c0⟩ := flt_get (HV.out.kept HKr.out) hxk
            cases e
            have HX : Hid (l[k]? = some x) := hxk
            clear hxk
            have La := HLa.out
            have Lm := HLm.out
            have a0 := La.cell 0 rfl; have a1 := La.cell 1 rfl; have a2 := La.cell 2 rfl; have a3 := La.cell 3 rfl; have a4 := La.cell 4 rfl; have af0 := La.frozen 0; have af1 := La.frozen 1; have af2 := La.frozen 2; have af3 := La.frozen 3; have af4 := La.frozen 4; have m0 := Lm.cell 0 rfl; have m1 := Lm.cell 1 rfl; have mf0 := Lm.frozen 0; have mf1 := Lm.frozen 1; clear La Lm
            repeat (first | go_values | go_skip | go_guarded | go_step | go_upon)
            go_at_call 47
            refine (isample f0 f1 f2 f3 f4 q.2.1 q.2.2 x _).mono ?_
            rintro e u6 ⟨y, a, bb, rfl, hy, ha, hbb, ly, la, lb, k6⟩
            dsimp only
            have s6 := k6.size
            have HKr : Hid (Kept w u6) := HKr.out.trans k6
            have HLa : Hid (Loc u6 w.heap.size [.float .f64 f0, .float .f64 f1, .float .f64 f2, .float .f64 f3, .float .f64 f4]) := HLa.out.kept k6
            have HLm : Hid (Loc u6 (w.heap.size + 1) [.float .f64 q.2.1, .float .f64 q.2.2]) := HLm.out.kept k6
            have HLr : Hid (Loc u6 (w.heap.size + 1 + 1) [.float .f64 0, .float .f64 0]) := HLr.out.kept k6
            have HRow : Hid (FltO u6 B (B + 1) (.slice (some ⟨B, 0, none⟩) l.length l.length) (q.1 ++ List.replicate (l.length - k) 0)) := HRow.out.kept k6
            have hst := step_of (f0, f1, f2, f3, f4) q.2 x y a bb HGq.out.1 HGq.out.2 hy ha hbb ly la lb
            have HST : Hid (stepM (f0, f1, f2, f3, f4) q.2 x = if good a && good (plain bb) then some (y, a, plain bb) else none) := hst
            clear hst k6 hy ha hbb c0
            clear a0 af0 a1 af1 a2 af2 a3 af3 a4 af4 m0 m1 mf0 mf1
            obtain ⟨d0, dz⟩ := HRow.out.cells (fillq_get q.1 l.length k HQL.out hlt)
            have dz0 := dz k
            have Lm := HLm.out
            have m0 := Lm.cell 0 rfl; have m1 := Lm.cell 1 rfl; have mf0 := Lm.frozen 0; have mf1 := Lm.frozen 1; clear Lm dz
            repeat (first | go_values | go_skip | go_guarded | go_step | go_upon)
            have hrow := HRow.out.set (fillq_len q.1 l.length k HQL.out (by omega)).symm (fillq_get q.1 l.length k HQL.out hlt) y
            rw [fillq_set q.1 l.length k y HQL.out hlt] at hrow
            have kb : But (w.heap.size + 1) (w.heap.size + 1 + 1) (u6.setCell ⟨B, k, none⟩ (.float .f64 y)) (((u6.setCell ⟨B, k, none⟩ (.float .f64 y)).setCell ⟨w.heap.size + 1, 0, none⟩ (.float .f64 a)).setCell ⟨w.heap.size + 1, 1, none⟩ (.float .f64 (plain bb))) := ((But.refl _ _ _).setCell (by simp) (by simp) _).setCell (by simp) (by simp) _
            have hrow2 := hrow.but kb (by omega)
            have hLm2 := ((HLm.out.other (b' := B) (j := k) (by omega) (.float .f64 y)).set 0 (.float .f64 a)).set 1 (.float .f64 (plain bb))
            have hLa2 := ((HLa.out.other (b' := B) (j := k) (by omega) (.float .f64 y)).other (b' := w.heap.size + 1) (j := 0) (by omega) (.float .f64 a)).other (b' := w.heap.size + 1) (j := 1) (by omega) (.float .f64 (plain bb))
            have hLr2 := ((HLr.out.other (b' := B) (j := k) (by omega) (.float .f64 y)).other (b' := w.heap.size + 1) (j := 0) (by omega) (.float .f64 a)).other (b' := w.heap.size + 1) (j := 1) (by omega) (.float .f64 (plain bb))
            have hK2 : Kept w (((u6.setCell ⟨B, k, none⟩ (.float .f64 y)).setCell ⟨w.heap.size + 1, 0, none⟩ (.float .f64 a)).setCell ⟨w.heap.size + 1, 1, none⟩ (.float .f64 (plain bb))) := ((HKr.out.setNew (by simp; omega) _).setNew (by simp) _).setNew (by simp) _
            have hs2 : (((u6.setCell ⟨B, k, none⟩ (.float .f64 y)).setCell ⟨w.heap.size + 1, 0, none⟩ (.float .f64 a)).setCell ⟨w.heap.size + 1, 1, none⟩ (.float .f64 (plain bb))).heap.size = u6.heap.size := by simp
            generalize (((u6.setCell ⟨B, k, none⟩ (.float .f64 y)).setCell ⟨w.heap.size + 1, 0, none⟩ (.float .f64 a)).setCell ⟨w.heap.size + 1, 1, none⟩ (.float .f64 (plain bb))) = U7 at hrow2 hLm2 hLa2 hLr2 hK2 hs2 kb ⊢
            clear hrow kb d0 dz0 m0 m1 mf0 mf1 HRow HLm HLa HLr HKr
            refine (igoodM a (plain bb) la (plain_lt lb) _).mono ?_
            rintro e u8' ⟨rfl, k8⟩
            have s8 := k8.size
            have HLa : Hid (Loc u8' w.heap.size [.float .f64 f0, .float .f64 f1, .float .f64 f2, .float .f64 f3, .float .f64 f4]) := hLa2.kept k8
            have HLm : Hid (Loc u8' (w.heap.size + 1) [.float .f64 a, .float .f64 (plain bb)]) := hLm2.kept k8
            have Lr := hLr2.kept k8
            have HRow : Hid (FltO u8' B (B + 1) (.slice (some ⟨B, 0, none⟩) l.length l.length) ((q.1 ++ [y]) ++ List.replicate (l.length - (k + 1)) 0)) := hrow2.kept k8
            have K1 := hK2.trans k8
            clear hrow2 hLm2 hLa2 hLr2 hK2 k8
            cases hgg : (good a && good (plain bb)) with
            | false =>
              have hnone : runM (f0, f1, f2, f3, f4) (s1, s2) (l.take (k + 1)) = none := by
                rw [take_snoc HX.out, runM_snoc, HQ.out, Option.bind_some, HST.out, hgg]
                rfl
              have hR := HR.out.2 (runM_none _ _ _ _ hnone)
              have HR2 : Hid (runF (f0, f1, f2, f3, f4) (s1, s2) l = ([], (0, 0), false)) := hR
              clear hnone hR
              dsimp only
              have r0 := Lr.cell 0 rfl; have r1 := Lr.cell 1 rfl; have rf0 := Lr.frozen 0; have rf1 := Lr.frozen 1; skip
              repeat (first | go_values | go_skip | go_guarded | go_step | go_upon)
              refine bodyPost_ret (v := .tuple #[.slice none 0 0, .agg #[.float .f64 0, .float .f64 0], .bool false]) (by simp [results, Try.results11, go_sem, r0, r1]) rfl ?_
              rw [HR2.out]
              exact ⟨.slice none 0 0, rfl, FltO.nil, by (repeat (first | with_reducible exact But.refl _ _ _ | with_reducible apply But.drewN | with_reducible apply But.drew | with_reducible exact K1 | with_reducible apply But.alloc | (with_reducible refine But.setNew ?_ (by simp; try omega) _)))⟩
            | true =>
              have HLr : Hid (Loc u8' (w.heap.size + 1 + 1) [.float .f64 0, .float .f64 0]) := Lr
              have HKr : Hid (Kept w u8') := K1
              clear Lr K1
              dsimp only
              repeat (first | go_values | go_skip | go_guarded | go_step | go_upon)
              refine ⟨⟨k + 1, (q.1 ++ [y], (a, plain bb)), hlt, by go_num, ?_, ?_, HLa, HLm, HLr, HRow, HKr, by omega⟩, by simp [intOf]; omega⟩
              · show runM (f0, f1, f2, f3, f4) (s1, s2) (l.take (k + 1)) = some (q.1 ++ [y], (a, plain bb))
                rw [take_snoc HX.out, runM_snoc, HQ.out, Option.bind_some, HST.out, hgg]
                rfl
              · simp only [Bool.and_eq_true] at hgg
                exact (⟨⟨hgg.1, la⟩, ⟨hgg.2, plain_lt lb⟩⟩ : GoodB a ∧ GoodB (plain bb))
          · have hke : k = l.length := by omega
            subst hke
            have hq := HQ.out
            rw [List.take_length] at hq
            have HR2 : Hid (runF (f0, f1, f2, f3, f4) (s1, s2) l = (q.1, q.2, true)) := HR.out.1 q hq
            clear hq
            have Lm := HLm.out
            have Lr := HLr.out
            have m0 := Lm.cell 0 rfl; have m1 := Lm.cell 1 rfl; have mf0 := Lm.frozen 0; have mf1 := Lm.frozen 1; have r0 := Lr.cell 0 rfl; have r1 := Lr.cell 1 rfl; have rf0 := Lr.frozen 0; have rf1 := Lr.frozen 1; clear Lm Lr
            repeat (first | go_values | go_skip | go_guarded | go_step | go_upon)
            go_region
            all_goals
              repeat (first | go_values | go_skip | go_guarded | go_step | go_upon)
              refine bodyPost_ret (v := .tuple #[.slice (some ⟨B, 0, none⟩) l.length l.length, .agg #[.float .f64 q.2.1, .float .f64 q.2.2], .bool true]) (by simp [results, Try.results11, go_sem, r0, r1]) rfl ?_
              rw [HR2.out]
              have hrow : FltO wr B (B + 1) (.slice (some ⟨B, 0, none⟩) l.length l.length) q.1 := by simpa using HRow.out
              exact ⟨_, rfl, ((hrow.but (lo' := w.heap.size + 1 + 1) (hi' := w.heap.size + 1 + 1 + 1) (by (repeat (first | with_reducible exact But.refl _ _ _ | with_reducible apply But.drewN | with_reducible apply But.drew | (with_reducible refine But.setCell ?_ (by simp) (by simp) _)))) (by omega)).mono (by omega) (Nat.le_refl _)).low, by (repeat (first | with_reducible exact HKr.out | with_reducible apply But.drewN | with_reducible apply But.drew | (with_reducible refine But.setNew ?_ (by simp; try omega) _)))⟩

end Go.Proofs.Ytghmnhohdbombaa
