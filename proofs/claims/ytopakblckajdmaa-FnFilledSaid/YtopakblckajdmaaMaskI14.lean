/-
  TileMask of the program.
-/
import Derived.Test.YtopakblckajdmaaSMask14
namespace Go.Proofs.Ytopakblckajdmaa
open Go.ChangeShapes Go.WideShapes Go.ChangeAt Go.RowKit

set_option maxRecDepth 100000
set_option linter.unusedVariables false
theorem ix0 (a1 a2 a3 a4 : Value) (W : World) : (Instr.index 86 (.agg #[a1, a2, a3, a4]) (.int .i64 0)).run Try.prog W = .ok a1 W := by kernel_rfl
theorem ix1 (a1 a2 a3 a4 : Value) (W : World) : (Instr.index 86 (.agg #[a1, a2, a3, a4]) (.int .i64 1)).run Try.prog W = .ok a2 W := by kernel_rfl
theorem ix2 (a1 a2 a3 a4 : Value) (W : World) : (Instr.index 86 (.agg #[a1, a2, a3, a4]) (.int .i64 2)).run Try.prog W = .ok a3 W := by kernel_rfl
theorem ix3 (a1 a2 a3 a4 : Value) (W : World) : (Instr.index 86 (.agg #[a1, a2, a3, a4]) (.int .i64 3)).run Try.prog W = .ok a4 W := by kernel_rfl
theorem ihas (fv : Value) (f : FieldD) (n : Int) (w : World) (hf : FieldAt w fv f) :
    Calls Try.prog 60 #[fv, .int .i64 n] w fun e w' => e = .returned (.bool (decide (0 ≤ n ∧ n < f.2.2.length))) ∧ Kept w w' := by
  obtain ⟨ao, cap, hfm⟩ := hf.form
  subst hfm
  clear hf
  by_cases h1 : 0 ≤ n
  · have d1 : decide (0 ≤ n) = true := decide_eq_true h1
    go_enter Try.func60, Try.ntmps60
    repeat (first | go_values | go_skip | go_guarded | go_step | go_upon)
    go_ret
    exact ⟨ret_bool (by simp [h1]), (But.refl _ _ _).alloc _⟩
  · have d1 : decide (0 ≤ n) = false := decide_eq_false h1
    go_enter Try.func60, Try.ntmps60
    repeat (first | go_values | go_skip | go_guarded | go_step | go_upon)
    go_ret
    exact ⟨ret_bool (by simp [h1]), (But.refl _ _ _).alloc _⟩

set_option maxHeartbeats 8000000 in
theorem imask (fv : Value) (f : FieldD) (n s : Int) (w : World) (hf : FieldAt w fv f) (hn : f.2.2.length ≤ 1048576) :
    Calls Try.prog 38 #[fv, .int .i64 n, .int .i64 s] w fun e w' => e = .returned (.int .i64 (maskR f n s)) ∧ Kept w w' := by
  obtain ⟨ao, cap, hfm⟩ := hf.form
  subst hfm
  cases d1 : dec (FieldP 6 f) with
  | false =>
    rw [show maskR f n s = -1 by unfold maskR; rw [dec_no (fun h => of_dec_no d1 h.1)]; rfl]
    go_enter Try.func38, Try.ntmps38
    go_upto_region 1 with fail
    obtain ⟨W, hW⟩ : ∃ x, x = (w.alloc (.cells #[.int .i64 f.1, .int .i64 f.2.1, .slice ao f.2.2.length cap] 28)) := ⟨_, rfl⟩
    have kz : Kept w W := by rw [hW]; exact (But.refl _ _ _).alloc _
    have L1 : Loc W w.heap.size [.int .i64 f.1, .int .i64 f.2.1, .slice ao f.2.2.length cap] := by rw [hW]; exact Loc.new _ _ _
    rw [← hW]
    clear hW
    have q0 := L1.cell 0 rfl
    have q1 := L1.cell 1 rfl
    have q2 := L1.cell 2 rfl
    have ql := L1.lt
    repeat (first | go_values | go_skip | go_guarded | go_step | go_upon)
    go_at_call 58
    refine (itiles _ f 6 _ (hf.kept kz) (by omega) hn).mono ?_
    rintro e u1 ⟨rfl, k1⟩
    rw [d1]
    dsimp only
    repeat (first | go_values | go_skip | go_guarded | go_step | go_upon)
    go_ret
    exact ⟨rfl, kz.trans k1⟩
  | true =>
    have hg := of_dec d1
    have hlen : f.2.2.length ≤ 36 := by have := hg.2.2.1; have := mul_in hg.1.1 hg.1.2 hg.2.1.1 hg.2.1.2; omega
    by_cases h2 : 0 ≤ n ∧ n < f.2.2.length
    · have d2 : decide (0 ≤ n ∧ n < (f.2.2.length : Int)) = true := decide_eq_true (by omega)
      by_cases h3 : 0 ≤ s ∧ s < 6
      · have d3 : decide (0 ≤ s ∧ s < 6) = true := decide_eq_true (by omega)
        rw [show maskR f n s = maskA f n s by unfold maskR; rw [dec_yes ⟨hg, h2, h3⟩]; rfl]
        have HG2 : Hid (FieldP 6 f) := hg
        obtain ⟨h0, h1⟩ := h2
        clear hg
        go_enter Try.func38, Try.ntmps38
        go_upto_region 1 with fail
        obtain ⟨W, hW⟩ : ∃ x, x = (w.alloc (.cells #[.int .i64 f.1, .int .i64 f.2.1, .slice ao f.2.2.length cap] 28)) := ⟨_, rfl⟩
        have kz : Kept w W := by rw [hW]; exact (But.refl _ _ _).alloc _
        have L1 : Loc W w.heap.size [.int .i64 f.1, .int .i64 f.2.1, .slice ao f.2.2.length cap] := by rw [hW]; exact Loc.new _ _ _
        rw [← hW]
        clear hW
        have q0 := L1.cell 0 rfl
        have q1 := L1.cell 1 rfl
        have q2 := L1.cell 2 rfl
        have ql := L1.lt
        repeat (first | go_values | go_skip | go_guarded | go_step | go_upon)
        go_at_call 58
        refine (itiles _ f 6 _ (hf.kept kz) (by omega) hn).mono ?_
        rintro e u1 ⟨rfl, k1⟩
        rw [d1]
        have L1 := L1.kept k1
        have kz := kz.trans k1
        clear q0 q1 q2 ql k1
        have q0 := L1.cell 0 rfl
        have q1 := L1.cell 1 rfl
        have q2 := L1.cell 2 rfl
        have ql := L1.lt
        dsimp only
        repeat (first | go_values | go_skip | go_guarded | go_step | go_upon)
        go_at_call 60
        refine (ihas _ f n _ (hf.kept kz)).mono ?_
        rintro e u2 ⟨rfl, k2⟩
        rw [d2]
        have L1 := L1.kept k2
        have kz := kz.trans k2
        clear q0 q1 q2 ql k2
        have q0 := L1.cell 0 rfl
        have q1 := L1.cell 1 rfl
        have q2 := L1.cell 2 rfl
        have ql := L1.lt
        dsimp only
        repeat (go_not_at_region 3; first | (go_at_call 64; refine (isort _ _ _).mono ?_; rintro e u3 ⟨rfl, rfl⟩; rw [d3]; dsimp only) | go_values | go_skip | go_guarded | go_step | go_upon)
        have hfa := hf.kept kz
        obtain ⟨A1, hA1⟩ : ∃ x, tileA f (n % f.1 - 1) (n / f.1) s = x := ⟨_, rfl⟩
        obtain ⟨A2, hA2⟩ : ∃ x, tileA f (n % f.1) (n / f.1 - 1) s = x := ⟨_, rfl⟩
        obtain ⟨B1, hB1⟩ : ∃ x, tileA f (n % f.1 + 1) (n / f.1) s = x := ⟨_, rfl⟩
        obtain ⟨B2, hB2⟩ : ∃ x, tileA f (n % f.1) (n / f.1 + 1) s = x := ⟨_, rfl⟩
        have HA1 : Hid (tileA f (n % f.1 - 1) (n / f.1) s = A1) := hA1
        have HA2 : Hid (tileA f (n % f.1) (n / f.1 - 1) s = A2) := hA2
        have HB1 : Hid (tileA f (n % f.1 + 1) (n / f.1) s = B1) := hB1
        have HB2 : Hid (tileA f (n % f.1) (n / f.1 + 1) s = B2) := hB2
        rename World => X
        have HM : Hid (maskA f n s = maskV (decide (A2 = s)) (decide (B1 = s)) (decide (B2 = s)) (decide (A1 = s))) := by
          show maskA f n s = _
          unfold maskA
          rw [hA1, hA2, hB1, hB2]
        clear hA1 hA2 hB1 hB2 hf d1 d2 d3
        have nA : X.heap.size < X.heap.size + 1 + 1 := by omega
        go_cut [7, 8] from 26 to 33 (fun v7 v8 wx => ∃ g1 g2, v7 = .pointer (some ⟨g1, 0, none⟩) ∧ v8 = .pointer (some ⟨g2, 0, none⟩) ∧ Two wx g1 A1 A2 ∧ Two wx g2 B1 B2 ∧ Kept X wx)
        case first =>
          go_region_held3 (fun w' => w'.cell? ⟨w.heap.size, 0, none⟩ = some (.int .i64 f.1) ∧ w'.cell? ⟨w.heap.size, 1, none⟩ = some (.int .i64 f.2.1) ∧ w'.cell? ⟨w.heap.size, 2, none⟩ = some (.slice ao f.2.2.length cap)) (simp [go_sem, *])
            (first | (go_at_call 65; refine (iahead _ f 6 n s _ (FieldAt.kept hfa (by (repeat (first | with_reducible exact But.refl _ _ _ | with_reducible apply But.drewN | with_reducible apply But.drew | with_reducible apply But.alloc | (with_reducible refine But.setNew ?_ (by simp; try omega) _))))) HG2.out h0 h1).mono ?_; rintro e y2 ⟨rfl, k2⟩; rw [HA1.out, HA2.out]; have hcy2 := k2.cell_eq; have hfy2 := k2.frozen_eq; have hzy2 := k2.size; (try simp at hzy2); have kwy2 : Kept X y2 := (But.trans (by (repeat (first | with_reducible exact But.refl _ _ _ | with_reducible apply But.drewN | with_reducible apply But.drew | with_reducible apply But.alloc | (with_reducible refine But.setNew ?_ (by simp; try omega) _)))) k2); have nly2 : X.heap.size ≤ y2.heap.size := kwy2.size; have n0y2 : w.heap.size < y2.heap.size := (by omega); have q0y2 := Kept.cell kwy2 q0; have q1y2 := Kept.cell kwy2 q1; have q2y2 := Kept.cell kwy2 q2; (try have m1y2 : X.heap.size < y2.heap.size := (by omega)); (try have m2y2 : X.heap.size + 1 < y2.heap.size := (by omega)))
                   | (go_at_call 66; refine (ibehind _ f 6 n s _ (FieldAt.kept hfa (by (repeat (first | with_reducible exact kwy2 | with_reducible apply But.drewN | with_reducible apply But.drew | with_reducible apply But.alloc | (with_reducible refine But.setNew ?_ (by simp; try omega) _))))) HG2.out h0 h1).mono ?_; rintro e y3 ⟨rfl, k3⟩; rw [HB1.out, HB2.out]; have hcy3 := k3.cell_eq; have hfy3 := k3.frozen_eq; have hzy3 := k3.size; (try simp at hzy3); have kwy3 : Kept X y3 := (But.trans (by (repeat (first | with_reducible exact kwy2 | with_reducible apply But.drewN | with_reducible apply But.drew | with_reducible apply But.alloc | (with_reducible refine But.setNew ?_ (by simp; try omega) _)))) k3); have nly3 : X.heap.size ≤ y3.heap.size := kwy3.size; have n0y3 : w.heap.size < y3.heap.size := (by omega); have q0y3 := Kept.cell kwy3 q0; have q1y3 := Kept.cell kwy3 q1; have q2y3 := Kept.cell kwy3 q2; (try have m1y3 : X.heap.size < y3.heap.size := (by omega)); (try have m2y3 : X.heap.size + 1 < y3.heap.size := (by omega)); (try have m3y3 : y2.heap.size < y3.heap.size := (by omega)); (try have m4y3 : y2.heap.size + 1 < y3.heap.size := (by omega)); (try have ys00 : (y3.cell? ⟨X.heap.size, 0, none⟩).isSome = true := (by first | (simp [go_sem, *]; done) | fail)); (try have ys01 : (y3.cell? ⟨X.heap.size, 1, none⟩).isSome = true := (by first | (simp [go_sem, *]; done) | fail)); (try have ys10 : (y3.cell? ⟨X.heap.size + 1, 0, none⟩).isSome = true := (by first | (simp [go_sem, *]; done) | fail)); (try have ys11 : (y3.cell? ⟨X.heap.size + 1, 1, none⟩).isSome = true := (by first | (simp [go_sem, *]; done) | fail)); (try have ys20 : (y3.cell? ⟨y2.heap.size, 0, none⟩).isSome = true := (by first | (simp [go_sem, *]; done) | fail)); (try have ys21 : (y3.cell? ⟨y2.heap.size, 1, none⟩).isSome = true := (by first | (simp [go_sem, *]; done) | fail)); (try have ys30 : (y3.cell? ⟨y2.heap.size + 1, 0, none⟩).isSome = true := (by first | (simp [go_sem, *]; done) | fail)); (try have ys31 : (y3.cell? ⟨y2.heap.size + 1, 1, none⟩).isSome = true := (by first | (simp [go_sem, *]; done) | fail))))
          all_goals
            repeat (first | go_values | go_skip | go_guarded | go_step | go_upon)
            go_meet
            case rel =>
              refine ⟨_, _, rfl, rfl, ⟨by simp [go_sem, *], by simp [go_sem, *]⟩, ⟨by simp [go_sem, *], by simp [go_sem, *]⟩, by (repeat (first | with_reducible exact kwy3 | with_reducible apply But.drewN | with_reducible apply But.drew | with_reducible apply But.alloc | (with_reducible refine But.setNew ?_ (by simp; try omega) _)))⟩
        case rest =>
          obtain ⟨g1, g2, rfl, rfl, t1, t2, kx⟩ := hcut
          have kz := kz.trans kx
          clear q0 q1 q2 ql nA hfa kx L1
          have t11 := t1.1
          have t12 := t1.2
          have t21 := t2.1
          have t22 := t2.2
          repeat (first | go_values | go_skip | go_guarded | go_step | go_upon)
          have z0 : Hid (Kept w wc) := kz
          clear kz t11 t12 t21 t22 t1 t2
          obtain ⟨b0, hb0⟩ : ∃ b, decide (A2 = s) = b := ⟨_, rfl⟩
          obtain ⟨b1, hb1⟩ : ∃ b, decide (B1 = s) = b := ⟨_, rfl⟩
          obtain ⟨b2, hb2⟩ : ∃ b, decide (B2 = s) = b := ⟨_, rfl⟩
          obtain ⟨b3, hb3⟩ : ∃ b, decide (A1 = s) = b := ⟨_, rfl⟩
          have HMB : Hid (maskA f n s = maskV b0 b1 b2 b3) := by show maskA f n s = _; rw [HM.out, hb0, hb1, hb2, hb3]
          have HB : Hid ((A2 == s) = b0 ∧ (B1 == s) = b1 ∧ (B2 == s) = b2 ∧ (A1 == s) = b3) := ⟨hb0, hb1, hb2, hb3⟩
          clear hb0 hb1 hb2 hb3 HM
          rename World => w5
          go_loopw [9, 43] (fun m i wr => ∃ k : Nat, k ≤ 4 ∧ i = .int .i64 k ∧ m = .int .i64 (maskV (b0 && decide (0 < k)) (b1 && decide (1 < k)) (b2 && decide (2 < k)) (b3 && decide (3 < k))) ∧ w5 = wr) (fun m i _ => 4 - (intOf i).toNat)
          case atStart => exact ⟨0, by omega, rfl, by simp [maskV], rfl⟩
          case round =>
            obtain ⟨k, hk, rfl, hmm, rfl⟩ := hrel
            try rename Value => mv
            obtain ⟨hb0, hb1, hb2, hb3⟩ := HB.out
            match k, hk with
            | 0, _ =>
              have hix := ix0 (.int .i64 A2) (.int .i64 B1) (.int .i64 B2) (.int .i64 A1)
              cases b0
              · have hmv : _ = Value.int .i64 0 := hmm.trans (by simp [maskV])
                subst hmv
                clear hmm
                repeat (first | go_values | go_skip | go_guarded | go_step | go_upon)
                exact ⟨⟨1, by omega, by go_num, by first | (simp [maskV]; done) | (simp [maskV]; kernel_rfl), by first | rfl | trivial⟩, by simp [intOf]⟩
              · have hmv : _ = Value.int .i64 0 := hmm.trans (by simp [maskV])
                subst hmv
                clear hmm
                repeat (first | go_values | go_skip | go_guarded | go_step | go_upon)
                exact ⟨⟨1, by omega, by go_num, by first | (simp [maskV]; done) | (simp [maskV]; kernel_rfl), by first | rfl | trivial⟩, by simp [intOf]⟩
            | 1, _ =>
              have hix := ix1 (.int .i64 A2) (.int .i64 B1) (.int .i64 B2) (.int .i64 A1)
              cases b0 <;> cases b1
              · have hmv : _ = Value.int .i64 0 := hmm.trans (by simp [maskV])
                subst hmv
                clear hmm
                repeat (first | go_values | go_skip | go_guarded | go_step | go_upon)
                exact ⟨⟨2, by omega, by go_num, by first | (simp [maskV]; done) | (simp [maskV]; kernel_rfl), by first | rfl | trivial⟩, by simp [intOf]⟩
              · have hmv : _ = Value.int .i64 0 := hmm.trans (by simp [maskV])
                subst hmv
                clear hmm
                repeat (first | go_values | go_skip | go_guarded | go_step | go_upon)
                exact ⟨⟨2, by omega, by go_num, by first | (simp [maskV]; done) | (simp [maskV]; kernel_rfl), by first | rfl | trivial⟩, by simp [intOf]⟩
              · have hmv : _ = Value.int .i64 1 := hmm.trans (by simp [maskV])
                subst hmv
                clear hmm
                repeat (first | go_values | go_skip | go_guarded | go_step | go_upon)
                exact ⟨⟨2, by omega, by go_num, by first | (simp [maskV]; done) | (simp [maskV]; kernel_rfl), by first | rfl | trivial⟩, by simp [intOf]⟩
              · have hmv : _ = Value.int .i64 1 := hmm.trans (by simp [maskV])
                subst hmv
                clear hmm
                repeat (first | go_values | go_skip | go_guarded | go_step | go_upon)
                exact ⟨⟨2, by omega, by go_num, by first | (simp [maskV]; done) | (simp [maskV]; kernel_rfl), by first | rfl | trivial⟩, by simp [intOf]⟩
            | 2, _ =>
              have hix := ix2 (.int .i64 A2) (.int .i64 B1) (.int .i64 B2) (.int .i64 A1)
              cases b0 <;> cases b1 <;> cases b2
              · have hmv : _ = Value.int .i64 0 := hmm.trans (by simp [maskV])
                subst hmv
                clear hmm
                repeat (first | go_values | go_skip | go_guarded | go_step | go_upon)
                exact ⟨⟨3, by omega, by go_num, by first | (simp [maskV]; done) | (simp [maskV]; kernel_rfl), by first | rfl | trivial⟩, by simp [intOf]⟩
              · have hmv : _ = Value.int .i64 0 := hmm.trans (by simp [maskV])
                subst hmv
                clear hmm
                repeat (first | go_values | go_skip | go_guarded | go_step | go_upon)
                exact ⟨⟨3, by omega, by go_num, by first | (simp [maskV]; done) | (simp [maskV]; kernel_rfl), by first | rfl | trivial⟩, by simp [intOf]⟩
              · have hmv : _ = Value.int .i64 2 := hmm.trans (by simp [maskV])
                subst hmv
                clear hmm
                repeat (first | go_values | go_skip | go_guarded | go_step | go_upon)
                exact ⟨⟨3, by omega, by go_num, by first | (simp [maskV]; done) | (simp [maskV]; kernel_rfl), by first | rfl | trivial⟩, by simp [intOf]⟩
              · have hmv : _ = Value.int .i64 2 := hmm.trans (by simp [maskV])
                subst hmv
                clear hmm
                repeat (first | go_values | go_skip | go_guarded | go_step | go_upon)
                exact ⟨⟨3, by omega, by go_num, by first | (simp [maskV]; done) | (simp [maskV]; kernel_rfl), by first | rfl | trivial⟩, by simp [intOf]⟩
              · have hmv : _ = Value.int .i64 1 := hmm.trans (by simp [maskV])
                subst hmv
                clear hmm
                repeat (first | go_values | go_skip | go_guarded | go_step | go_upon)
                exact ⟨⟨3, by omega, by go_num, by first | (simp [maskV]; done) | (simp [maskV]; kernel_rfl), by first | rfl | trivial⟩, by simp [intOf]⟩
              · have hmv : _ = Value.int .i64 1 := hmm.trans (by simp [maskV])
                subst hmv
                clear hmm
                repeat (first | go_values | go_skip | go_guarded | go_step | go_upon)
                exact ⟨⟨3, by omega, by go_num, by first | (simp [maskV]; done) | (simp [maskV]; kernel_rfl), by first | rfl | trivial⟩, by simp [intOf]⟩
              · have hmv : _ = Value.int .i64 3 := hmm.trans (by simp [maskV])
                subst hmv
                clear hmm
                repeat (first | go_values | go_skip | go_guarded | go_step | go_upon)
                exact ⟨⟨3, by omega, by go_num, by first | (simp [maskV]; done) | (simp [maskV]; kernel_rfl), by first | rfl | trivial⟩, by simp [intOf]⟩
              · have hmv : _ = Value.int .i64 3 := hmm.trans (by simp [maskV])
                subst hmv
                clear hmm
                repeat (first | go_values | go_skip | go_guarded | go_step | go_upon)
                exact ⟨⟨3, by omega, by go_num, by first | (simp [maskV]; done) | (simp [maskV]; kernel_rfl), by first | rfl | trivial⟩, by simp [intOf]⟩
            | 3, _ =>
              have hix := ix3 (.int .i64 A2) (.int .i64 B1) (.int .i64 B2) (.int .i64 A1)
              cases b0 <;> cases b1 <;> cases b2 <;> cases b3
              · have hmv : _ = Value.int .i64 0 := hmm.trans (by simp [maskV])
                subst hmv
                clear hmm
                repeat (first | go_values | go_skip | go_guarded | go_step | go_upon)
                exact ⟨⟨4, by omega, by go_num, by first | (simp [maskV]; done) | (simp [maskV]; kernel_rfl), by first | rfl | trivial⟩, by simp [intOf]⟩
              · have hmv : _ = Value.int .i64 0 := hmm.trans (by simp [maskV])
                subst hmv
                clear hmm
                repeat (first | go_values | go_skip | go_guarded | go_step | go_upon)
                exact ⟨⟨4, by omega, by go_num, by first | (simp [maskV]; done) | (simp [maskV]; kernel_rfl), by first | rfl | trivial⟩, by simp [intOf]⟩
              · have hmv : _ = Value.int .i64 4 := hmm.trans (by simp [maskV])
                subst hmv
                clear hmm
                repeat (first | go_values | go_skip | go_guarded | go_step | go_upon)
                exact ⟨⟨4, by omega, by go_num, by first | (simp [maskV]; done) | (simp [maskV]; kernel_rfl), by first | rfl | trivial⟩, by simp [intOf]⟩
              · have hmv : _ = Value.int .i64 4 := hmm.trans (by simp [maskV])
                subst hmv
                clear hmm
                repeat (first | go_values | go_skip | go_guarded | go_step | go_upon)
                exact ⟨⟨4, by omega, by go_num, by first | (simp [maskV]; done) | (simp [maskV]; kernel_rfl), by first | rfl | trivial⟩, by simp [intOf]⟩
              · have hmv : _ = Value.int .i64 2 := hmm.trans (by simp [maskV])
                subst hmv
                clear hmm
                repeat (first | go_values | go_skip | go_guarded | go_step | go_upon)
                exact ⟨⟨4, by omega, by go_num, by first | (simp [maskV]; done) | (simp [maskV]; kernel_rfl), by first | rfl | trivial⟩, by simp [intOf]⟩
              · have hmv : _ = Value.int .i64 2 := hmm.trans (by simp [maskV])
                subst hmv
                clear hmm
                repeat (first | go_values | go_skip | go_guarded | go_step | go_upon)
                exact ⟨⟨4, by omega, by go_num, by first | (simp [maskV]; done) | (simp [maskV]; kernel_rfl), by first | rfl | trivial⟩, by simp [intOf]⟩
              · have hmv : _ = Value.int .i64 6 := hmm.trans (by simp [maskV])
                subst hmv
                clear hmm
                repeat (first | go_values | go_skip | go_guarded | go_step | go_upon)
                exact ⟨⟨4, by omega, by go_num, by first | (simp [maskV]; done) | (simp [maskV]; kernel_rfl), by first | rfl | trivial⟩, by simp [intOf]⟩
              · have hmv : _ = Value.int .i64 6 := hmm.trans (by simp [maskV])
                subst hmv
                clear hmm
                repeat (first | go_values | go_skip | go_guarded | go_step | go_upon)
                exact ⟨⟨4, by omega, by go_num, by first | (simp [maskV]; done) | (simp [maskV]; kernel_rfl), by first | rfl | trivial⟩, by simp [intOf]⟩
              · have hmv : _ = Value.int .i64 1 := hmm.trans (by simp [maskV])
                subst hmv
                clear hmm
                repeat (first | go_values | go_skip | go_guarded | go_step | go_upon)
                exact ⟨⟨4, by omega, by go_num, by first | (simp [maskV]; done) | (simp [maskV]; kernel_rfl), by first | rfl | trivial⟩, by simp [intOf]⟩
              · have hmv : _ = Value.int .i64 1 := hmm.trans (by simp [maskV])
                subst hmv
                clear hmm
                repeat (first | go_values | go_skip | go_guarded | go_step | go_upon)
                exact ⟨⟨4, by omega, by go_num, by first | (simp [maskV]; done) | (simp [maskV]; kernel_rfl), by first | rfl | trivial⟩, by simp [intOf]⟩
              · have hmv : _ = Value.int .i64 5 := hmm.trans (by simp [maskV])
                subst hmv
                clear hmm
                repeat (first | go_values | go_skip | go_guarded | go_step | go_upon)
                exact ⟨⟨4, by omega, by go_num, by first | (simp [maskV]; done) | (simp [maskV]; kernel_rfl), by first | rfl | trivial⟩, by simp [intOf]⟩
              · have hmv : _ = Value.int .i64 5 := hmm.trans (by simp [maskV])
                subst hmv
                clear hmm
                repeat (first | go_values | go_skip | go_guarded | go_step | go_upon)
                exact ⟨⟨4, by omega, by go_num, by first | (simp [maskV]; done) | (simp [maskV]; kernel_rfl), by first | rfl | trivial⟩, by simp [intOf]⟩
              · have hmv : _ = Value.int .i64 3 := hmm.trans (by simp [maskV])
                subst hmv
                clear hmm
                repeat (first | go_values | go_skip | go_guarded | go_step | go_upon)
                exact ⟨⟨4, by omega, by go_num, by first | (simp [maskV]; done) | (simp [maskV]; kernel_rfl), by first | rfl | trivial⟩, by simp [intOf]⟩
              · have hmv : _ = Value.int .i64 3 := hmm.trans (by simp [maskV])
                subst hmv
                clear hmm
                repeat (first | go_values | go_skip | go_guarded | go_step | go_upon)
                exact ⟨⟨4, by omega, by go_num, by first | (simp [maskV]; done) | (simp [maskV]; kernel_rfl), by first | rfl | trivial⟩, by simp [intOf]⟩
              · have hmv : _ = Value.int .i64 7 := hmm.trans (by simp [maskV])
                subst hmv
                clear hmm
                repeat (first | go_values | go_skip | go_guarded | go_step | go_upon)
                exact ⟨⟨4, by omega, by go_num, by first | (simp [maskV]; done) | (simp [maskV]; kernel_rfl), by first | rfl | trivial⟩, by simp [intOf]⟩
              · have hmv : _ = Value.int .i64 7 := hmm.trans (by simp [maskV])
                subst hmv
                clear hmm
                repeat (first | go_values | go_skip | go_guarded | go_step | go_upon)
                exact ⟨⟨4, by omega, by go_num, by first | (simp [maskV]; done) | (simp [maskV]; kernel_rfl), by first | rfl | trivial⟩, by simp [intOf]⟩
            | 4, _ =>
              have hmv : _ = Value.int .i64 (maskA f n s) := hmm.trans (by rw [HMB.out]; simp)
              subst hmv
              clear hmm
              repeat (first | go_values | go_skip | go_guarded | go_step | go_upon)
              go_ret
              exact ⟨rfl, z0.out⟩
      · have d3 : decide (0 ≤ s ∧ s < 6) = false := decide_eq_false (by omega)
        rw [show maskR f n s = -1 by unfold maskR; rw [dec_no (fun h => h3 h.2.2)]; rfl]
        go_enter Try.func38, Try.ntmps38
        go_upto_region 1 with fail
        obtain ⟨W, hW⟩ : ∃ x, x = (w.alloc (.cells #[.int .i64 f.1, .int .i64 f.2.1, .slice ao f.2.2.length cap] 28)) := ⟨_, rfl⟩
        have kz : Kept w W := by rw [hW]; exact (But.refl _ _ _).alloc _
        have L1 : Loc W w.heap.size [.int .i64 f.1, .int .i64 f.2.1, .slice ao f.2.2.length cap] := by rw [hW]; exact Loc.new _ _ _
        rw [← hW]
        clear hW
        have q0 := L1.cell 0 rfl
        have q1 := L1.cell 1 rfl
        have q2 := L1.cell 2 rfl
        have ql := L1.lt
        repeat (first | go_values | go_skip | go_guarded | go_step | go_upon)
        go_at_call 58
        refine (itiles _ f 6 _ (hf.kept kz) (by omega) hn).mono ?_
        rintro e u1 ⟨rfl, k1⟩
        rw [d1]
        have L1 := L1.kept k1
        have kz := kz.trans k1
        clear q0 q1 q2 ql k1
        have q0 := L1.cell 0 rfl
        have q1 := L1.cell 1 rfl
        have q2 := L1.cell 2 rfl
        have ql := L1.lt
        dsimp only
        repeat (first | (go_at_call 60; refine (ihas _ f n _ (hf.kept kz)).mono ?_; rintro e u2 ⟨rfl, k2⟩; rw [d2]; have kz := kz.trans k2; dsimp only) | (go_at_call 64; refine (isort _ _ _).mono ?_; rintro e u3 ⟨rfl, rfl⟩; rw [d3]; dsimp only) | go_values | go_skip | go_guarded | go_step | go_upon)
        go_ret
        exact ⟨rfl, kz⟩
    · have d2 : decide (0 ≤ n ∧ n < (f.2.2.length : Int)) = false := decide_eq_false (by omega)
      rw [show maskR f n s = -1 by unfold maskR; rw [dec_no (fun h => h2 h.2.1)]; rfl]
      go_enter Try.func38, Try.ntmps38
      go_upto_region 1 with fail
      obtain ⟨W, hW⟩ : ∃ x, x = (w.alloc (.cells #[.int .i64 f.1, .int .i64 f.2.1, .slice ao f.2.2.length cap] 28)) := ⟨_, rfl⟩
      have kz : Kept w W := by rw [hW]; exact (But.refl _ _ _).alloc _
      have L1 : Loc W w.heap.size [.int .i64 f.1, .int .i64 f.2.1, .slice ao f.2.2.length cap] := by rw [hW]; exact Loc.new _ _ _
      rw [← hW]
      clear hW
      have q0 := L1.cell 0 rfl
      have q1 := L1.cell 1 rfl
      have q2 := L1.cell 2 rfl
      have ql := L1.lt
      repeat (first | go_values | go_skip | go_guarded | go_step | go_upon)
      go_at_call 58
      refine (itiles _ f 6 _ (hf.kept kz) (by omega) hn).mono ?_
      rintro e u1 ⟨rfl, k1⟩
      rw [d1]
      have L1 := L1.kept k1
      have kz := kz.trans k1
      clear q0 q1 q2 ql k1
      have q0 := L1.cell 0 rfl
      have q1 := L1.cell 1 rfl
      have q2 := L1.cell 2 rfl
      have ql := L1.lt
      dsimp only
      repeat (first | (go_at_call 60; refine (ihas _ f n _ (hf.kept kz)).mono ?_; rintro e u2 ⟨rfl, k2⟩; rw [d2]; have kz := kz.trans k2; dsimp only) | go_values | go_skip | go_guarded | go_step | go_upon)
      go_ret
      exact ⟨rfl, kz⟩

end Go.Proofs.Ytopakblckajdmaa
