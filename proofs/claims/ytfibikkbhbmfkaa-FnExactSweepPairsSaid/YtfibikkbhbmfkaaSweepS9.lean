/-
  SweepPairs in the specification.
-/
import Derived.Test.YtfibikkbhbmfkaaSweep9
namespace Go.Proofs.Ytfibikkbhbmfkaa
open Go.ChangeShapes Go.WideShapes Go.ChangeAt Go.RowKit

set_option maxRecDepth 100000
set_option linter.unusedVariables false
set_option linter.unusedSimpArgs false

def swR (ps : List ShapeD) : List PairD × Int × Bool := if shapesB ps = true then (allT ps ps.length, ((allG (og ps) ps.length ps.length).length : Int), true) else ([], 0, false)
theorem swR_len (ps : List ShapeD) : (swR ps).1.length ≤ 100000000 := by
  unfold swR
  split
  · rename_i h
    have h1 := shapes_len h
    have := allT_len h1 ps.length
    dsimp only
    omega
  · simp
def SwO (ps : List ShapeD) (u : World) (e : Ending) (u' : World) : Prop := ∃ v', e = .returned (.tuple #[v', .int .i64 (swR ps).2.1, .bool (swR ps).2.2]) ∧ PairO u' u.heap.size u'.heap.size v' (swR ps).1 ∧ Kept u u'
set_option maxHeartbeats 8000000 in
theorem ssweep (ps : List ShapeD) (v : Value) (w : World) (hv : ShapeAt w v ps) (hn : ps.length ≤ 1048576) : Calls Try.prog 28 #[v] w (SwO ps w) := by
  obtain ⟨ao, cap, hsl⟩ := row_nil hv
  subst hsl
  by_cases hg : shapesB ps = true
  · have hr : swR ps = (allT ps ps.length, ((allG (og ps) ps.length ps.length).length : Int), true) := if_pos hg
    unfold SwO
    rw [hr]
    have hn' := shapes_len hg
    go_enter Try.func28, Try.ntmps28
    repeat (first | go_values | go_skip | go_guarded | go_step | go_upon)
    go_at_call 41
    refine (sshapes ps _ _ hv hn).mono ?_
    rw [hg]
    rintro e W0 ⟨rfl, K0⟩
    have HG : Hid (shapesB ps = true) := hg
    have HV : Hid (ShapeAt W0 (.slice ao ps.length cap) ps) := hv.kept K0
    clear hg hv hr
    dsimp only
    repeat (first | go_values | go_skip | go_guarded | go_step | go_upon)
    go_loopw [5, 21] (fun e i wr => ∃ (j c : Nat), j ≤ ps.length ∧ i = .int .i64 j ∧ e = .int .i64 c ∧ (allG (og ps) ps.length j).length = c ∧ Kept W0 wr) (fun _ i _ => ps.length - (intOf i).toNat)
    case atStart => exact ⟨0, 0, by omega, rfl, rfl, rfl, But.refl _ _ _⟩
    case round =>
      obtain ⟨j, c, hj, rfl, rfl, hc, hkp⟩ := hrel
      have HC : Hid ((allG (og ps) ps.length j).length = c) := hc
      have HK : Hid (Kept W0 wr) := hkp
      have hcl : c ≤ 40 * j := by rw [← hc]; exact allO_len hn' j
      clear hc hkp
      by_cases hlt : j < ps.length
      · have e1 := IntWalk.i64_in (n := (j : Int) + 1) (by omega)
        repeat (first | go_values | go_skip | go_guarded | go_step | go_upon)
        go_loopw [5, 7] (fun e i wr => ∃ (q c : Nat), j + 1 ≤ q ∧ q ≤ ps.length ∧ i = .int .i64 q ∧ e = .int .i64 c ∧ (allG (og ps) ps.length j ++ rowG (og ps) j (q - (j + 1))).length = c ∧ Kept W0 wr) (fun _ i _ => ps.length - (intOf i).toNat)
        case atStart => exact ⟨j + 1, c, Nat.le_refl _, hlt, by simp, rfl, by simp [rowG]; exact HC.out, HK.out⟩
        case round =>
          clear HC HK hcl
          obtain ⟨q, c, hq1, hq, rfl, rfl, hc, hkp⟩ := hrel
          have HC : Hid ((allG (og ps) ps.length j ++ rowG (og ps) j (q - (j + 1))).length = c) := hc
          have HK : Hid (Kept W0 wr) := hkp
          have hcl : c ≤ 40 * j + 40 := by
            rw [← hc, List.length_append]
            have := allO_len (ps := ps) hn' j
            have := rowO_len ps j (q - (j + 1))
            omega
          have hwz := hkp.size
          clear hc
          by_cases hqt : q < ps.length
          · obtain ⟨p, hp⟩ : ∃ p, ps[j]? = some p := ⟨_, List.getElem?_eq_getElem hlt⟩
            obtain ⟨p2, hp2⟩ : ∃ p, ps[q]? = some p := ⟨_, List.getElem?_eq_getElem hqt⟩
            obtain ⟨bb, o, cap', e, c0, c1, c2, c3, c4⟩ := shape_get (HV.out.kept hkp) hp
            cases e
            obtain ⟨bb2, o2, cap2, e, d0, d1, d2, d3, d4⟩ := shape_get (HV.out.kept hkp) hp2
            cases e
            have HR : Hid (rowG (og ps) j (q + 1 - (j + 1)) = rowG (og ps) j (q - (j + 1)) ++ og ps j q) := by
              show rowG (og ps) j (q + 1 - (j + 1)) = _
              rw [show q + 1 - (j + 1) = (q - (j + 1)) + 1 by omega, rowG_succ, show j + 1 + (q - (j + 1)) = q by omega]
            have HS1 : Hid (ShapeP p) := shapes_good HG.out hp
            have HS2 : Hid (ShapeP p2) := shapes_good HG.out hp2
            have b1 := bnd_bd HS1.out
            have b2 := bnd_bd HS2.out
            have HOG : Hid (og ps j q = if (bnd p).1 ≤ (bnd p2).2.2.1 ∧ (bnd p2).1 ≤ (bnd p).2.2.1 then [()] else []) := by
              show og ps j q = _
              unfold og
              rw [lefts_of hp, rights_of hp, lefts_of hp2, rights_of hp2]
            obtain ⟨⟨q0, q1, q2, q3⟩, hbq⟩ : ∃ x, bnd p = x := ⟨_, rfl⟩
            obtain ⟨⟨t0, t1, t2, t3⟩, hbt⟩ : ∃ x, bnd p2 = x := ⟨_, rfl⟩
            rw [hbq] at b1 HOG
            rw [hbt] at b2 HOG
            dsimp only at b1 b2 HOG
            have B1 : q0 ≤ q2 := by omega
            have B2 : t0 ≤ t2 := by omega
            clear hp hp2 hkp b1 b2
            obtain ⟨k, x, y, a, b⟩ := p
            obtain ⟨m, u, v, c5, e5⟩ := p2
            dsimp only at c0 c1 c2 c3 c4 d0 d1 d2 d3 d4
            have hbb := cell_lt c0
            have ei := IntWalk.i64_in (n := (c : Int) + 1) (by omega)
            repeat (first | go_values | go_skip | go_guarded | go_step | go_upon)
            go_at_call 37
            refine (sbnd k x y a b _ HS1.out).mono ?_
            rw [hbq]
            unfold Ret4
            rintro e w5 ⟨rfl, k5⟩
            have d0 := Kept.cell k5 d0
            have d1 := Kept.cell k5 d1
            have d2 := Kept.cell k5 d2
            have d3 := Kept.cell k5 d3
            have d4 := Kept.cell k5 d4
            have HK5 : Hid (Kept W0 w5) := HK.out.trans k5
            clear c0 c1 c2 c3 c4 k5 hbb
            dsimp only
            repeat (first | go_values | go_skip | go_guarded | go_step | go_upon)
            go_at_call 37
            refine (sbnd m u v c5 e5 _ HS2.out).mono ?_
            rw [hbt]
            unfold Ret4
            rintro e w6 ⟨rfl, k6⟩
            have HK6 : Hid (Kept W0 w6) := HK5.out.trans k6
            clear d0 d1 d2 d3 d4 k6
            dsimp only
            by_cases hov : q0 ≤ t2 ∧ t0 ≤ q2
            · have HOG1 : Hid (og ps j q = [()]) := by show og ps j q = _; rw [HOG.out, if_pos hov]
              clear HOG
              by_cases h1 : q0 ≤ t0
              · have z1 : decide (q0 ≤ t0) = true := decide_eq_true h1
                have z2 : decide (t0 ≤ q2) = true := decide_eq_true hov.2
                clear h1 hov
                repeat (first | go_values | go_skip | go_guarded | go_step | go_upon)
                refine ⟨⟨q + 1, c + 1, by omega, hqt, by go_num, by go_num, ?_, HK6.out⟩, by simp [intOf]; omega⟩
                rw [HR.out, HOG1.out, ← List.append_assoc, List.length_append, HC.out]
                rfl
              · have z1 : decide (q0 ≤ t0) = false := decide_eq_false h1
                have z3 : decide (t0 < q0) = true := decide_eq_true (by omega)
                have z4 : decide (q0 ≤ t2) = true := decide_eq_true hov.1
                clear h1 hov
                repeat (first | go_values | go_skip | go_guarded | go_step | go_upon)
                refine ⟨⟨q + 1, c + 1, by omega, hqt, by go_num, by go_num, ?_, HK6.out⟩, by simp [intOf]; omega⟩
                rw [HR.out, HOG1.out, ← List.append_assoc, List.length_append, HC.out]
                rfl
            · have HOG1 : Hid (og ps j q = []) := by show og ps j q = _; rw [HOG.out, if_neg hov]
              clear HOG
              by_cases h1 : q0 ≤ t0
              · have z1 : decide (q0 ≤ t0) = true := decide_eq_true h1
                have z2 : decide (t0 ≤ q2) = false := decide_eq_false (by omega)
                have z3 : decide (t0 < q0) = false := decide_eq_false (by omega)
                clear h1 hov
                repeat (first | go_values | go_skip | go_guarded | go_step | go_upon)
                refine ⟨⟨q + 1, c, by omega, hqt, by go_num, rfl, ?_, HK6.out⟩, by simp [intOf]; omega⟩
                rw [HR.out, HOG1.out, List.append_nil]
                exact HC.out
              · have z1 : decide (q0 ≤ t0) = false := decide_eq_false h1
                have z3 : decide (t0 < q0) = true := decide_eq_true (by omega)
                have z4 : decide (q0 ≤ t2) = false := decide_eq_false (by omega)
                clear h1 hov
                repeat (first | go_values | go_skip | go_guarded | go_step | go_upon)
                refine ⟨⟨q + 1, c, by omega, hqt, by go_num, rfl, ?_, HK6.out⟩, by simp [intOf]; omega⟩
                rw [HR.out, HOG1.out, List.append_nil]
                exact HC.out
          · have hqe : q = ps.length := by omega
            subst hqe
            repeat (first | go_values | go_skip | go_guarded | go_step | go_upon)
            refine ⟨⟨j + 1, c, hlt, by go_num, rfl, ?_, HK.out⟩, by simp [intOf]; omega⟩
            rw [allG_succ]
            exact HC.out
      · have hje : j = ps.length := by omega
        subst hje
        repeat (first | go_values | go_skip | go_guarded | go_step | go_upon)
        go_at_call 42
        refine (spairs ps _ _ (HV.out.kept HK.out) HG.out).mono ?_
        rintro e w2 ⟨v', rfl, o2, k2⟩
        obtain ⟨ao2, cap2, hfm⟩ := o2.form
        subst hfm
        dsimp only
        repeat (first | go_values | go_skip | go_guarded | go_step | go_upon)
        refine bodyPost_ret (v := .tuple #[.slice ao2 (allT ps ps.length).length cap2, .int .i64 (c : Int), .bool true]) (by simp [results, Try.results28, go_sem]) rfl ?_
        refine ⟨_, by rw [HC.out], o2.mono ?_ (Nat.le_refl _), (K0.trans HK.out).trans k2⟩
        have := K0.size
        have := HK.out.size
        omega
  · have hg' : shapesB ps = false := by simpa using hg
    have hr : swR ps = ([], 0, false) := if_neg hg
    unfold SwO
    rw [hr]
    go_enter Try.func28, Try.ntmps28
    repeat (first | go_values | go_skip | go_guarded | go_step | go_upon)
    go_at_call 41
    refine (sshapes ps _ _ hv hn).mono ?_
    rw [hg']
    rintro e w1 ⟨rfl, k1⟩
    dsimp only
    repeat (first | go_values | go_skip | go_guarded | go_step | go_upon)
    refine bodyPost_ret (v := .tuple #[.slice none 0 0, .int .i64 0, .bool false]) (by simp [results, Try.results28, go_sem]) rfl ?_
    exact ⟨_, rfl, pair_nil _ _ _, k1⟩

end Go.Proofs.Ytfibikkbhbmfkaa
