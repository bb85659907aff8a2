/-
  What could stand at a place, in the specification.
-/
import Derived.Test.YtopakblckajdmaaFit14
import Derived.Deep.CutBlock
import Derived.Deep.CutRange
namespace Go.Proofs.Ytopakblckajdmaa
open Go.ChangeShapes Go.WideShapes Go.ChangeAt Go.RowKit

set_option maxRecDepth 100000
set_option linter.unusedVariables false
set_option maxHeartbeats 8000000 in
theorem sfits (rv fv : Value) (r : RulesD) (f : FieldD) (n t : Int) (w : World) (hr : RulesAt w rv r) (hf : FieldAt w fv f) (hg : GoodP r f) (h0 : 0 ≤ n) (h1 : n < f.2.2.length) (ht : 0 ≤ t ∧ t < r.1) :
    Calls Try.prog 50 #[rv, fv, .int .i64 n, .int .i64 t] w fun e w' => e = .returned (.bool (dec (FitP r f n t))) ∧ Kept w w' := by
  obtain ⟨a1, c1, a2, c2, hfm⟩ := hr.form
  subst hfm
  obtain ⟨ao, cap, hfm⟩ := hf.form
  subst hfm
  obtain ⟨x0, x1, y0, y1, xy⟩ := place_xy hg.2 h0 h1
  obtain ⟨x, hx⟩ : ∃ x, n % f.1 = x := ⟨_, rfl⟩
  obtain ⟨y, hy⟩ : ∃ y, n / f.1 = y := ⟨_, rfl⟩
  have hb1 := hg.2.1
  have hb2 := hg.2.2.1
  have hlen : f.2.2.length ≤ 36 := by have := hg.2.2.2.1; have := mul_in hb1.1 hb1.2 hb2.1 hb2.2; omega
  have zw : (f.1 == 0) = false := by simp; omega
  have HFP : Hid (FitP r f n t ↔ FitQ r f x y t) := by show FitP r f n t ↔ _; unfold FitP; rw [hx, hy]
  rw [hx, hy] at xy
  rw [hx] at x0 x1
  rw [hy] at y0 y1
  have HXY : Hid (y * f.1 + x = n) := xy
  have HG : Hid (GoodP r f) := hg
  clear xy hg
  have K0 : Kept w ((w.alloc (.cells #[.int .i64 r.1, .slice a1 r.2.1.length c1, .slice a2 r.2.2.length c2] 25)).alloc (.cells #[.int .i64 f.1, .int .i64 f.2.1, .slice ao f.2.2.length cap] 28)) := ((But.refl _ _ _).alloc _).alloc _
  go_enter Try.func50, Try.ntmps50
  go_upto_region 1 with fail
  obtain ⟨w0, hw0⟩ : ∃ x, ((w.alloc (.cells #[.int .i64 r.1, .slice a1 r.2.1.length c1, .slice a2 r.2.2.length c2] 25)).alloc (.cells #[.int .i64 f.1, .int .i64 f.2.1, .slice ao f.2.2.length cap] 28)) = x := ⟨_, rfl⟩
  have L0 : Loc w0 w.heap.size [.int .i64 r.1, .slice a1 r.2.1.length c1, .slice a2 r.2.2.length c2] := by rw [← hw0]; exact (Loc.new w [.int .i64 r.1, .slice a1 r.2.1.length c1, .slice a2 r.2.2.length c2] 25).alloc (.cells #[.int .i64 f.1, .int .i64 f.2.1, .slice ao f.2.2.length cap] 28)
  have L1 : Loc w0 (w.heap.size + 1) [.int .i64 f.1, .int .i64 f.2.1, .slice ao f.2.2.length cap] := by rw [← hw0]; have := Loc.new (w.alloc (.cells #[.int .i64 r.1, .slice a1 r.2.1.length c1, .slice a2 r.2.2.length c2] 25)) [.int .i64 f.1, .int .i64 f.2.1, .slice ao f.2.2.length cap] 28; simpa using this
  rw [hw0] at K0 ⊢
  clear hw0
  have HF : Hid (NumAt w0 (.slice ao f.2.2.length cap) f.2.2) := (hf.kept K0).row
  have HL1 : Hid (LLAt w0 (.slice a1 r.2.1.length c1) r.2.1) := (hr.kept K0).parts.1
  have HL2 : Hid (LLAt w0 (.slice a2 r.2.2.length c2) r.2.2) := (hr.kept K0).parts.2
  have HK : Hid (Kept w w0) := K0
  have p1 := L0.cell 1 rfl
  have p2 := L0.cell 2 rfl
  have q0 := L1.cell 0 rfl
  have q1' := L1.cell 1 rfl
  have q2 := L1.cell 2 rfl
  clear L0 L1 K0 hf hr
  go_upto_if 24 with fail
  go_cut [11] from 25 to 42 (fun _o wx => Hid (Fol r.2.1 (tileA f (x - 1) y (-1)) t) ∧ w0 = wx)
  case first =>
    by_cases hx : 0 < x
    · have hxd : decide (0 < x) = true := decide_eq_true hx
      obtain ⟨i, p, hi, hil, hip, htl, hp1, hp2⟩ := tile_in HG.out.2 (x := (x - 1)) (y := y) (by omega)
      have hn1 : n - 1 = (i : Int) := by rw [← hi, ← HXY.out]; omega
      have hnw : IntKind.i64.wrap (n - 1) = (i : Int) := by rw [IntKind.wrap_i64, hn1]; omega
      obtain ⟨g, o, cap1, ee, c0⟩ := num_get HF.out hip
      cases ee
      have htl := htl (-1)
      have HT : Hid (tileA f (x - 1) y (-1) = p) := htl
      clear hi hip htl
      by_cases hp : 0 ≤ p
      · have hpd : decide (0 ≤ p) = true := decide_eq_true hp
        obtain ⟨k, l, hk, hkl, hkl2, hgd⟩ := list_in HG.out.1.2.1 (a := p) (by omega) (by omega)
        have hll := rise_len (HG.out.1.2.1.2 k hkl2 l hkl) HG.out.1.1.2
        have hll : l.length ≤ 9000000000000000000 := by omega
        obtain ⟨g2, o2, cap2, u, ee, c02, ha⟩ := lL_get HL1.out hkl
        cases ee
        obtain ⟨a3, c3, hsl⟩ := row_nil ha
        subst hsl
        have HA : Hid (NumAt w0 (.slice a3 l.length c3) l) := ha
        have HD : Hid (r.2.1.getD p.toNat [] = l) := hgd
        have HKK : Hid (p = (k : Int)) := hk
        clear hkl ha hgd
        cases q1 : dec (t ∈ l) with
        | false =>
          subst hk
          repeat (first | (go_at_call 74; refine (sin l t _ _ _ HA.out hll).mono ?_; rintro e u1 ⟨rfl, rfl⟩; rw [q1]; dsimp only) | go_values | go_skip | go_guarded | go_step | go_upon)
          go_ret
          refine ⟨ret_bool (dec_no fun h => ?_).symm, HK.out⟩
          have h1 := (HFP.out.1 h).1
          rw [HT.out] at h1
          rcases h1 with h1 | h1 | h1
          · omega
          · omega
          · rw [HD.out] at h1
            exact of_dec_no q1 h1
        | true =>
          subst hk
          repeat (first | (go_at_call 74; refine (sin l t _ _ _ HA.out hll).mono ?_; rintro e u1 ⟨rfl, rfl⟩; rw [q1]; dsimp only) | go_values | go_skip | go_guarded | go_step | go_upon)
          go_meet
          case rel =>
            refine ⟨?_, rfl⟩
            show Fol r.2.1 (tileA f (x - 1) y (-1)) t
            rw [HT.out]
            refine .inr (.inr ?_)
            rw [HD.out]
            exact of_dec q1
      · have hpd : decide (0 ≤ p) = false := decide_eq_false hp
        repeat (first | go_values | go_skip | go_guarded | go_step | go_upon)
        go_meet
        case rel =>
          refine ⟨?_, rfl⟩
          show Fol r.2.1 (tileA f (x - 1) y (-1)) t
          rw [HT.out]
          exact .inl (by omega)
    · have hxd : decide (0 < x) = false := decide_eq_false hx
      repeat (first | go_values | go_skip | go_guarded | go_step | go_upon)
      go_meet
      case rel =>
        refine ⟨?_, rfl⟩
        show Fol r.2.1 (tileA f (x - 1) y (-1)) t
        rw [tile_out (by omega)]
        exact .inl rfl
  case rest =>
    obtain ⟨HQ0, rfl⟩ := hcut
    go_upto_if 47 with fail
    go_cut [12] from 48 to 65 (fun _o wx => Hid (Fol r.2.1 t (tileA f (x + 1) y (-1))) ∧ w0 = wx)
    case first =>
      by_cases hx : x < f.1 - 1
      · have hxd : decide (x < f.1 - 1) = true := decide_eq_true hx
        obtain ⟨i, p, hi, hil, hip, htl, hp1, hp2⟩ := tile_in HG.out.2 (x := (x + 1)) (y := y) (by omega)
        have hn1 : n + 1 = (i : Int) := by rw [← hi, ← HXY.out]; omega
        have hnw : IntKind.i64.wrap (n + 1) = (i : Int) := by rw [IntKind.wrap_i64, hn1]; omega
        obtain ⟨g, o, cap1, ee, c0⟩ := num_get HF.out hip
        cases ee
        have htl := htl (-1)
        have HT : Hid (tileA f (x + 1) y (-1) = p) := htl
        clear hi hip htl
        by_cases hp : 0 ≤ p
        · have hpd : decide (0 ≤ p) = true := decide_eq_true hp
          obtain ⟨k, l, hk, hkl, hkl2, hgd⟩ := list_in HG.out.1.2.1 (a := t) (by omega) (by omega)
          have hll := rise_len (HG.out.1.2.1.2 k hkl2 l hkl) HG.out.1.1.2
          have hll : l.length ≤ 9000000000000000000 := by omega
          obtain ⟨g2, o2, cap2, u, ee, c02, ha⟩ := lL_get HL1.out hkl
          cases ee
          obtain ⟨a3, c3, hsl⟩ := row_nil ha
          subst hsl
          have HA : Hid (NumAt w0 (.slice a3 l.length c3) l) := ha
          have HD : Hid (r.2.1.getD t.toNat [] = l) := hgd
          have HKK : Hid (t = (k : Int)) := hk
          clear hkl ha hgd
          cases q1 : dec (p ∈ l) with
          | false =>
            subst hk
            repeat (first | (go_at_call 74; refine (sin l p _ _ _ HA.out hll).mono ?_; rintro e u1 ⟨rfl, rfl⟩; rw [q1]; dsimp only) | go_values | go_skip | go_guarded | go_step | go_upon)
            go_ret
            refine ⟨ret_bool (dec_no fun h => ?_).symm, HK.out⟩
            have h1 := (HFP.out.1 h).2.1
            rw [HT.out] at h1
            rcases h1 with h1 | h1 | h1
            · omega
            · omega
            · rw [HD.out] at h1
              exact of_dec_no q1 h1
          | true =>
            subst hk
            repeat (first | (go_at_call 74; refine (sin l p _ _ _ HA.out hll).mono ?_; rintro e u1 ⟨rfl, rfl⟩; rw [q1]; dsimp only) | go_values | go_skip | go_guarded | go_step | go_upon)
            go_meet
            case rel =>
              refine ⟨?_, rfl⟩
              show Fol r.2.1 (k : Int) (tileA f (x + 1) y (-1))
              rw [HT.out]
              refine .inr (.inr ?_)
              rw [HD.out]
              exact of_dec q1
        · have hpd : decide (0 ≤ p) = false := decide_eq_false hp
          repeat (first | go_values | go_skip | go_guarded | go_step | go_upon)
          go_meet
          case rel =>
            refine ⟨?_, rfl⟩
            show Fol r.2.1 t (tileA f (x + 1) y (-1))
            rw [HT.out]
            exact .inr (.inl (by omega))
      · have hxd : decide (x < f.1 - 1) = false := decide_eq_false hx
        repeat (first | go_values | go_skip | go_guarded | go_step | go_upon)
        go_meet
        case rel =>
          refine ⟨?_, rfl⟩
          show Fol r.2.1 t (tileA f (x + 1) y (-1))
          rw [tile_out (by omega)]
          exact .inr (.inl rfl)
    case rest =>
      obtain ⟨HQ1, rfl⟩ := hcut
      go_upto_if 67 with fail
      go_cut [13] from 68 to 87 (fun _o wx => Hid (Fol r.2.2 (tileA f x (y - 1) (-1)) t) ∧ w0 = wx)
      case first =>
        by_cases hx : 0 < y
        · have hxd : decide (0 < y) = true := decide_eq_true hx
          obtain ⟨i, p, hi, hil, hip, htl, hp1, hp2⟩ := tile_in HG.out.2 (x := x) (y := (y - 1)) (by omega)
          have hn1 : n - f.1 = (i : Int) := by rw [← hi, ← HXY.out]; rw [Int.sub_mul, Int.one_mul]; omega
          have hnw : IntKind.i64.wrap (n - f.1) = (i : Int) := by rw [IntKind.wrap_i64, hn1]; omega
          obtain ⟨g, o, cap1, ee, c0⟩ := num_get HF.out hip
          cases ee
          have htl := htl (-1)
          have HT : Hid (tileA f x (y - 1) (-1) = p) := htl
          clear hi hip htl
          by_cases hp : 0 ≤ p
          · have hpd : decide (0 ≤ p) = true := decide_eq_true hp
            obtain ⟨k, l, hk, hkl, hkl2, hgd⟩ := list_in HG.out.1.2.2 (a := p) (by omega) (by omega)
            have hll := rise_len (HG.out.1.2.2.2 k hkl2 l hkl) HG.out.1.1.2
            have hll : l.length ≤ 9000000000000000000 := by omega
            obtain ⟨g2, o2, cap2, u, ee, c02, ha⟩ := lL_get HL2.out hkl
            cases ee
            obtain ⟨a3, c3, hsl⟩ := row_nil ha
            subst hsl
            have HA : Hid (NumAt w0 (.slice a3 l.length c3) l) := ha
            have HD : Hid (r.2.2.getD p.toNat [] = l) := hgd
            have HKK : Hid (p = (k : Int)) := hk
            clear hkl ha hgd
            cases q1 : dec (t ∈ l) with
            | false =>
              subst hk
              repeat (first | (go_at_call 74; refine (sin l t _ _ _ HA.out hll).mono ?_; rintro e u1 ⟨rfl, rfl⟩; rw [q1]; dsimp only) | go_values | go_skip | go_guarded | go_step | go_upon)
              go_ret
              refine ⟨ret_bool (dec_no fun h => ?_).symm, HK.out⟩
              have h1 := (HFP.out.1 h).2.2.1
              rw [HT.out] at h1
              rcases h1 with h1 | h1 | h1
              · omega
              · omega
              · rw [HD.out] at h1
                exact of_dec_no q1 h1
            | true =>
              subst hk
              repeat (first | (go_at_call 74; refine (sin l t _ _ _ HA.out hll).mono ?_; rintro e u1 ⟨rfl, rfl⟩; rw [q1]; dsimp only) | go_values | go_skip | go_guarded | go_step | go_upon)
              go_meet
              case rel =>
                refine ⟨?_, rfl⟩
                show Fol r.2.2 (tileA f x (y - 1) (-1)) t
                rw [HT.out]
                refine .inr (.inr ?_)
                rw [HD.out]
                exact of_dec q1
          · have hpd : decide (0 ≤ p) = false := decide_eq_false hp
            repeat (first | go_values | go_skip | go_guarded | go_step | go_upon)
            go_meet
            case rel =>
              refine ⟨?_, rfl⟩
              show Fol r.2.2 (tileA f x (y - 1) (-1)) t
              rw [HT.out]
              exact .inl (by omega)
        · have hxd : decide (0 < y) = false := decide_eq_false hx
          repeat (first | go_values | go_skip | go_guarded | go_step | go_upon)
          go_meet
          case rel =>
            refine ⟨?_, rfl⟩
            show Fol r.2.2 (tileA f x (y - 1) (-1)) t
            rw [tile_out (by omega)]
            exact .inl rfl
      case rest =>
        obtain ⟨HQ2, rfl⟩ := hcut
        go_upto_if 92 with fail
        go_cut [14] from 93 to 112 (fun _o wx => Hid (Fol r.2.2 t (tileA f x (y + 1) (-1))) ∧ w0 = wx)
        case first =>
          by_cases hx : y < f.2.1 - 1
          · have hxd : decide (y < f.2.1 - 1) = true := decide_eq_true hx
            obtain ⟨i, p, hi, hil, hip, htl, hp1, hp2⟩ := tile_in HG.out.2 (x := x) (y := (y + 1)) (by omega)
            have hn1 : n + f.1 = (i : Int) := by rw [← hi, ← HXY.out]; rw [Int.add_mul, Int.one_mul]; omega
            have hnw : IntKind.i64.wrap (n + f.1) = (i : Int) := by rw [IntKind.wrap_i64, hn1]; omega
            obtain ⟨g, o, cap1, ee, c0⟩ := num_get HF.out hip
            cases ee
            have htl := htl (-1)
            have HT : Hid (tileA f x (y + 1) (-1) = p) := htl
            clear hi hip htl
            by_cases hp : 0 ≤ p
            · have hpd : decide (0 ≤ p) = true := decide_eq_true hp
              obtain ⟨k, l, hk, hkl, hkl2, hgd⟩ := list_in HG.out.1.2.2 (a := t) (by omega) (by omega)
              have hll := rise_len (HG.out.1.2.2.2 k hkl2 l hkl) HG.out.1.1.2
              have hll : l.length ≤ 9000000000000000000 := by omega
              obtain ⟨g2, o2, cap2, u, ee, c02, ha⟩ := lL_get HL2.out hkl
              cases ee
              obtain ⟨a3, c3, hsl⟩ := row_nil ha
              subst hsl
              have HA : Hid (NumAt w0 (.slice a3 l.length c3) l) := ha
              have HD : Hid (r.2.2.getD t.toNat [] = l) := hgd
              have HKK : Hid (t = (k : Int)) := hk
              clear hkl ha hgd
              cases q1 : dec (p ∈ l) with
              | false =>
                subst hk
                repeat (first | (go_at_call 74; refine (sin l p _ _ _ HA.out hll).mono ?_; rintro e u1 ⟨rfl, rfl⟩; rw [q1]; dsimp only) | go_values | go_skip | go_guarded | go_step | go_upon)
                go_ret
                refine ⟨ret_bool (dec_no fun h => ?_).symm, HK.out⟩
                have h1 := (HFP.out.1 h).2.2.2
                rw [HT.out] at h1
                rcases h1 with h1 | h1 | h1
                · omega
                · omega
                · rw [HD.out] at h1
                  exact of_dec_no q1 h1
              | true =>
                subst hk
                repeat (first | (go_at_call 74; refine (sin l p _ _ _ HA.out hll).mono ?_; rintro e u1 ⟨rfl, rfl⟩; rw [q1]; dsimp only) | go_values | go_skip | go_guarded | go_step | go_upon)
                go_meet
                case rel =>
                  refine ⟨?_, rfl⟩
                  show Fol r.2.2 (k : Int) (tileA f x (y + 1) (-1))
                  rw [HT.out]
                  refine .inr (.inr ?_)
                  rw [HD.out]
                  exact of_dec q1
            · have hpd : decide (0 ≤ p) = false := decide_eq_false hp
              repeat (first | go_values | go_skip | go_guarded | go_step | go_upon)
              go_meet
              case rel =>
                refine ⟨?_, rfl⟩
                show Fol r.2.2 t (tileA f x (y + 1) (-1))
                rw [HT.out]
                exact .inr (.inl (by omega))
          · have hxd : decide (y < f.2.1 - 1) = false := decide_eq_false hx
            repeat (first | go_values | go_skip | go_guarded | go_step | go_upon)
            go_meet
            case rel =>
              refine ⟨?_, rfl⟩
              show Fol r.2.2 t (tileA f x (y + 1) (-1))
              rw [tile_out (by omega)]
              exact .inr (.inl rfl)
        case rest =>
          obtain ⟨HQ3, rfl⟩ := hcut
          repeat (first | go_values | go_skip | go_guarded | go_step | go_upon)
          go_ret
          exact ⟨ret_bool (dec_yes (HFP.out.2 ⟨HQ0.out, HQ1.out, HQ2.out, HQ3.out⟩)).symm, HK.out⟩

end Go.Proofs.Ytopakblckajdmaa
