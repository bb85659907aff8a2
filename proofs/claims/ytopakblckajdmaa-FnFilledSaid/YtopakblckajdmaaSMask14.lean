/-
  Masks of places, in the specification.
-/
import Derived.Test.YtopakblckajdmaaIHolds14
namespace Go.Proofs.Ytopakblckajdmaa
open Go.ChangeShapes Go.WideShapes Go.ChangeAt Go.RowKit

set_option maxRecDepth 100000
set_option linter.unusedVariables false
def maskV (b0 b1 b2 b3 : Bool) : Int := (if b0 then 1 else 0) + (if b1 then 2 else 0) + (if b2 then 4 else 0) + (if b3 then 8 else 0)
/-- The bits of the places beside one that have a sort. -/
def maskA (f : FieldD) (n s : Int) : Int :=
  maskV (decide (tileA f (n % f.1) (n / f.1 - 1) s = s)) (decide (tileA f (n % f.1 + 1) (n / f.1) s = s)) (decide (tileA f (n % f.1) (n / f.1 + 1) s = s)) (decide (tileA f (n % f.1 - 1) (n / f.1) s = s))
theorem maskA_bd (f : FieldD) (n s : Int) : 0 ≤ maskA f n s ∧ maskA f n s ≤ 15 := by
  unfold maskA maskV
  repeat' split
  all_goals omega
def MaskP (f : FieldD) (n s : Int) : Prop := FieldP 6 f ∧ (0 ≤ n ∧ n < f.2.2.length) ∧ (0 ≤ s ∧ s < 6)
noncomputable def maskR (f : FieldD) (n s : Int) : Int := if dec (MaskP f n s) then maskA f n s else -1

set_option maxHeartbeats 8000000 in
theorem slmask (fv : Value) (f : FieldD) (n s : Int) (w : World) (hf : FieldAt w fv f) (hg : FieldP 6 f) (h0 : 0 ≤ n) (h1 : n < f.2.2.length) :
    Calls Try.prog 63 #[fv, .int .i64 n, .int .i64 s] w fun e w' => e = .returned (.int .i64 (maskA f n s)) ∧ Kept w w' := by
  obtain ⟨ao, cap, hfm⟩ := hf.form
  subst hfm
  obtain ⟨x0, x1, y0, y1, xy⟩ := place_xy hg h0 h1
  obtain ⟨x, hx⟩ : ∃ x, n % f.1 = x := ⟨_, rfl⟩
  obtain ⟨y, hy⟩ : ∃ y, n / f.1 = y := ⟨_, rfl⟩
  have hb1 := hg.1
  have hb2 := hg.2.1
  have hlen : f.2.2.length ≤ 36 := by have := hg.2.2.1; have := mul_in hb1.1 hb1.2 hb2.1 hb2.2; omega
  have zw : (f.1 == 0) = false := by simp; omega
  obtain ⟨b0, hb0⟩ : ∃ b, decide (tileA f x (y - 1) s = s) = b := ⟨_, rfl⟩
  have Hb0 : Hid (decide (tileA f x (y - 1) s = s) = b0) := hb0
  obtain ⟨b1, hb1'⟩ : ∃ b, decide (tileA f (x + 1) y s = s) = b := ⟨_, rfl⟩
  have Hb1 : Hid (decide (tileA f (x + 1) y s = s) = b1) := hb1'
  obtain ⟨b2, hb2'⟩ : ∃ b, decide (tileA f x (y + 1) s = s) = b := ⟨_, rfl⟩
  have Hb2 : Hid (decide (tileA f x (y + 1) s = s) = b2) := hb2'
  obtain ⟨b3, hb3⟩ : ∃ b, decide (tileA f (x - 1) y s = s) = b := ⟨_, rfl⟩
  have Hb3 : Hid (decide (tileA f (x - 1) y s = s) = b3) := hb3
  obtain ⟨M1, hM1⟩ : ∃ m : Int, m = 0 + (if b0 then 1 else 0) := ⟨_, rfl⟩
  have Hm0 : Hid ((b0 = true → M1 = 1) ∧ (b0 = false → M1 = 0)) := ⟨fun h => by rw [hM1, h]; rfl, fun h => by rw [hM1, h]; simp⟩
  have bd1 : 0 ≤ M1 ∧ M1 ≤ 1 := by rw [hM1]; split <;> omega
  obtain ⟨M2, hM2⟩ : ∃ m : Int, m = M1 + (if b1 then 2 else 0) := ⟨_, rfl⟩
  have Hm1 : Hid ((b1 = true → M2 = M1 + 2) ∧ (b1 = false → M2 = M1)) := ⟨fun h => by rw [hM2, h]; rfl, fun h => by rw [hM2, h]; simp⟩
  have bd2 : 0 ≤ M2 ∧ M2 ≤ 3 := by rw [hM2]; split <;> omega
  obtain ⟨M3, hM3⟩ : ∃ m : Int, m = M2 + (if b2 then 4 else 0) := ⟨_, rfl⟩
  have Hm2 : Hid ((b2 = true → M3 = M2 + 4) ∧ (b2 = false → M3 = M2)) := ⟨fun h => by rw [hM3, h]; rfl, fun h => by rw [hM3, h]; simp⟩
  have bd3 : 0 ≤ M3 ∧ M3 ≤ 7 := by rw [hM3]; split <;> omega
  obtain ⟨M4, hM4⟩ : ∃ m : Int, m = M3 + (if b3 then 8 else 0) := ⟨_, rfl⟩
  have Hm3 : Hid ((b3 = true → M4 = M3 + 8) ∧ (b3 = false → M4 = M3)) := ⟨fun h => by rw [hM4, h]; rfl, fun h => by rw [hM4, h]; simp⟩
  have bd4 : 0 ≤ M4 ∧ M4 ≤ 15 := by rw [hM4]; split <;> omega
  have HM : Hid (M4 = maskA f n s) := by
    show M4 = maskA f n s
    unfold maskA maskV
    rw [hx, hy, hb0, hb1', hb2', hb3, hM4, hM3, hM2, hM1]
    omega
  rw [hx, hy] at xy
  rw [hx] at x0 x1
  rw [hy] at y0 y1
  have HXY : Hid (y * f.1 + x = n) := xy
  have HG : Hid (FieldP 6 f) := hg
  clear xy hg hb0 hb1' hb2' hb3 hM1 hM2 hM3 hM4
  go_enter Try.func63, Try.ntmps63
  go_upto_region 1 with fail
  obtain ⟨w0, hw0⟩ : ∃ x, x = (w.alloc (.cells #[.int .i64 f.1, .int .i64 f.2.1, .slice ao f.2.2.length cap] 28)) := ⟨_, rfl⟩
  have kz : Kept w w0 := by rw [hw0]; exact (But.refl _ _ _).alloc _
  have L1 : Loc w0 w.heap.size [.int .i64 f.1, .int .i64 f.2.1, .slice ao f.2.2.length cap] := by rw [hw0]; exact Loc.new _ _ _
  rw [← hw0]
  clear hw0
  have HF : Hid (NumAt w0 (.slice ao f.2.2.length cap) f.2.2) := (hf.kept kz).row
  have HK : Hid (Kept w w0) := kz
  have q0 := L1.cell 0 rfl
  have q1 := L1.cell 1 rfl
  have q2 := L1.cell 2 rfl
  clear L1 kz hf
  go_upto_region 4 with fail
  go_cut [31] from 18 to 30 (fun v wx => v = .bool b0 ∧ w0 = wx)
  case first =>
    by_cases hx : y = 0
    · have hxd : (y == 0) = true := by simpa using hx
      have hb : b0 = true := by rw [← Hb0.out]; apply decide_eq_true; apply tile_out; omega
      have HB : Hid (b0 = true) := hb
      clear hb
      repeat (first | go_values | go_skip | go_guarded | go_step | go_upon)
      go_meet
      case rel => exact ⟨by rw [HB.out], rfl⟩
    · have hxd : (y == 0) = false := by simpa using hx
      obtain ⟨i, p, hi, hil, hip, htl, hp1, hp2⟩ := tile_in HG.out (x := x) (y := (y - 1)) (by omega)
      have hn1 : n - f.1 = (i : Int) := by rw [← hi, ← HXY.out]; rw [Int.sub_mul, Int.one_mul]; omega
      have hnw : IntKind.i64.wrap (n - f.1) = (i : Int) := by rw [IntKind.wrap_i64, hn1]; omega
      obtain ⟨g, o, cap1, ee, c0⟩ := num_get HF.out hip
      cases ee
      have hb : b0 = (p == s) := by rw [← Hb0.out, htl s]; rfl
      have HB : Hid (b0 = (p == s)) := hb
      clear hi hip htl hb
      repeat (first | go_values | go_skip | go_guarded | go_step | go_upon)
      go_meet
      case rel => exact ⟨by rw [HB.out], rfl⟩
  case rest =>
    obtain ⟨rfl, rfl⟩ := hcut
    go_upto_if 31 with fail
    go_cut [9, 31] from 32 to 33 (fun v _c wx => v = .int .i64 M1 ∧ w0 = wx)
    case first =>
      obtain ⟨hm1, hm2⟩ := Hm0.out
      cases hb : b0 with
      | false =>
        have hm := hm2 hb
        subst hm
        repeat (first | go_values | go_skip | go_guarded | go_step | go_upon)
        go_meet
        case rel => exact ⟨rfl, rfl⟩
      | true =>
        have hm := hm1 hb
        subst hm
        repeat (first | go_values | go_skip | go_guarded | go_step | go_upon)
        go_meet
        case rel => exact ⟨rfl, rfl⟩
    case rest =>
      obtain ⟨rfl, rfl⟩ := hcut
      go_upto_region 6 with fail
      go_cut [48] from 34 to 47 (fun v wx => v = .bool b1 ∧ w0 = wx)
      case first =>
        by_cases hx : x = f.1 - 1
        · have hxd : (x == f.1 - 1) = true := by simpa using hx
          have hb : b1 = true := by rw [← Hb1.out]; apply decide_eq_true; apply tile_out; omega
          have HB : Hid (b1 = true) := hb
          clear hb
          repeat (first | go_values | go_skip | go_guarded | go_step | go_upon)
          go_meet
          case rel => exact ⟨by rw [HB.out], rfl⟩
        · have hxd : (x == f.1 - 1) = false := by simpa using hx
          obtain ⟨i, p, hi, hil, hip, htl, hp1, hp2⟩ := tile_in HG.out (x := (x + 1)) (y := y) (by omega)
          have hn1 : n + 1 = (i : Int) := by rw [← hi, ← HXY.out]; omega
          have hnw : IntKind.i64.wrap (n + 1) = (i : Int) := by rw [IntKind.wrap_i64, hn1]; omega
          obtain ⟨g, o, cap1, ee, c0⟩ := num_get HF.out hip
          cases ee
          have hb : b1 = (p == s) := by rw [← Hb1.out, htl s]; rfl
          have HB : Hid (b1 = (p == s)) := hb
          clear hi hip htl hb
          repeat (first | go_values | go_skip | go_guarded | go_step | go_upon)
          go_meet
          case rel => exact ⟨by rw [HB.out], rfl⟩
      case rest =>
        obtain ⟨rfl, rfl⟩ := hcut
        go_upto_if 48 with fail
        go_cut [9, 48] from 49 to 50 (fun v _c wx => v = .int .i64 M2 ∧ w0 = wx)
        case first =>
          obtain ⟨hm1, hm2⟩ := Hm1.out
          cases hb : b1 with
          | false =>
            have hm := hm2 hb
            subst hm
            repeat (first | go_values | go_skip | go_guarded | go_step | go_upon)
            go_meet
            case rel => exact ⟨rfl, rfl⟩
          | true =>
            have hm := hm1 hb
            subst hm
            repeat (first | go_values | go_skip | go_guarded | go_step | go_upon)
            go_meet
            case rel => exact ⟨rfl, rfl⟩
        case rest =>
          obtain ⟨rfl, rfl⟩ := hcut
          go_upto_region 8 with fail
          go_cut [67] from 51 to 66 (fun v wx => v = .bool b2 ∧ w0 = wx)
          case first =>
            by_cases hx : y = f.2.1 - 1
            · have hxd : (y == f.2.1 - 1) = true := by simpa using hx
              have hb : b2 = true := by rw [← Hb2.out]; apply decide_eq_true; apply tile_out; omega
              have HB : Hid (b2 = true) := hb
              clear hb
              repeat (first | go_values | go_skip | go_guarded | go_step | go_upon)
              go_meet
              case rel => exact ⟨by rw [HB.out], rfl⟩
            · have hxd : (y == f.2.1 - 1) = false := by simpa using hx
              obtain ⟨i, p, hi, hil, hip, htl, hp1, hp2⟩ := tile_in HG.out (x := x) (y := (y + 1)) (by omega)
              have hn1 : n + f.1 = (i : Int) := by rw [← hi, ← HXY.out]; rw [Int.add_mul, Int.one_mul]; omega
              have hnw : IntKind.i64.wrap (n + f.1) = (i : Int) := by rw [IntKind.wrap_i64, hn1]; omega
              obtain ⟨g, o, cap1, ee, c0⟩ := num_get HF.out hip
              cases ee
              have hb : b2 = (p == s) := by rw [← Hb2.out, htl s]; rfl
              have HB : Hid (b2 = (p == s)) := hb
              clear hi hip htl hb
              repeat (first | go_values | go_skip | go_guarded | go_step | go_upon)
              go_meet
              case rel => exact ⟨by rw [HB.out], rfl⟩
          case rest =>
            obtain ⟨rfl, rfl⟩ := hcut
            go_upto_if 67 with fail
            go_cut [9, 67] from 68 to 69 (fun v _c wx => v = .int .i64 M3 ∧ w0 = wx)
            case first =>
              obtain ⟨hm1, hm2⟩ := Hm2.out
              cases hb : b2 with
              | false =>
                have hm := hm2 hb
                subst hm
                repeat (first | go_values | go_skip | go_guarded | go_step | go_upon)
                go_meet
                case rel => exact ⟨rfl, rfl⟩
              | true =>
                have hm := hm1 hb
                subst hm
                repeat (first | go_values | go_skip | go_guarded | go_step | go_upon)
                go_meet
                case rel => exact ⟨rfl, rfl⟩
            case rest =>
              obtain ⟨rfl, rfl⟩ := hcut
              go_upto_region 10 with fail
              go_cut [81] from 70 to 80 (fun v wx => v = .bool b3 ∧ w0 = wx)
              case first =>
                by_cases hx : x = 0
                · have hxd : (x == 0) = true := by simpa using hx
                  have hb : b3 = true := by rw [← Hb3.out]; apply decide_eq_true; apply tile_out; omega
                  have HB : Hid (b3 = true) := hb
                  clear hb
                  repeat (first | go_values | go_skip | go_guarded | go_step | go_upon)
                  go_meet
                  case rel => exact ⟨by rw [HB.out], rfl⟩
                · have hxd : (x == 0) = false := by simpa using hx
                  obtain ⟨i, p, hi, hil, hip, htl, hp1, hp2⟩ := tile_in HG.out (x := (x - 1)) (y := y) (by omega)
                  have hn1 : n - 1 = (i : Int) := by rw [← hi, ← HXY.out]; omega
                  have hnw : IntKind.i64.wrap (n - 1) = (i : Int) := by rw [IntKind.wrap_i64, hn1]; omega
                  obtain ⟨g, o, cap1, ee, c0⟩ := num_get HF.out hip
                  cases ee
                  have hb : b3 = (p == s) := by rw [← Hb3.out, htl s]; rfl
                  have HB : Hid (b3 = (p == s)) := hb
                  clear hi hip htl hb
                  repeat (first | go_values | go_skip | go_guarded | go_step | go_upon)
                  go_meet
                  case rel => exact ⟨by rw [HB.out], rfl⟩
              case rest =>
                obtain ⟨rfl, rfl⟩ := hcut
                go_upto_if 81 with fail
                go_cut [9, 81] from 82 to 83 (fun v _c wx => v = .int .i64 M4 ∧ w0 = wx)
                case first =>
                  obtain ⟨hm1, hm2⟩ := Hm3.out
                  cases hb : b3 with
                  | false =>
                    have hm := hm2 hb
                    subst hm
                    repeat (first | go_values | go_skip | go_guarded | go_step | go_upon)
                    go_meet
                    case rel => exact ⟨rfl, rfl⟩
                  | true =>
                    have hm := hm1 hb
                    subst hm
                    repeat (first | go_values | go_skip | go_guarded | go_step | go_upon)
                    go_meet
                    case rel => exact ⟨rfl, rfl⟩
                case rest =>
                  obtain ⟨rfl, rfl⟩ := hcut
                  repeat (first | go_values | go_skip | go_guarded | go_step | go_upon)
                  go_ret
                  exact ⟨ret_int HM.out, HK.out⟩

end Go.Proofs.Ytopakblckajdmaa
