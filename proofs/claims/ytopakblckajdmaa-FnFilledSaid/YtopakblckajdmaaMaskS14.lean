/-
  TileMask of the specification.
-/
import Derived.Test.YtopakblckajdmaaSMask14
namespace Go.Proofs.Ytopakblckajdmaa
open Go.ChangeShapes Go.WideShapes Go.ChangeAt Go.RowKit

set_option maxRecDepth 100000
set_option linter.unusedVariables false
set_option maxHeartbeats 8000000 in
theorem smask (fv : Value) (f : FieldD) (n s : Int) (w : World) (hf : FieldAt w fv f) (hn : f.2.2.length ≤ 1048576) :
    Calls Try.prog 37 #[fv, .int .i64 n, .int .i64 s] w fun e w' => e = .returned (.int .i64 (maskR f n s)) ∧ Kept w w' := by
  obtain ⟨ao, cap, hfm⟩ := hf.form
  subst hfm
  cases d1 : dec (FieldP 6 f) with
  | false =>
    rw [show maskR f n s = -1 by unfold maskR; rw [dec_no (fun h => of_dec_no d1 h.1)]; rfl]
    go_enter Try.func37, Try.ntmps37
    go_upto_region 1 with fail
    obtain ⟨W, hW⟩ : ∃ x, x = (w.alloc (.cells #[.int .i64 f.1, .int .i64 f.2.1, .slice ao f.2.2.length cap] 28)) := ⟨_, rfl⟩
    have kz : Kept w W := by rw [hW]; exact (But.refl _ _ _).alloc _
    have L1 : Loc W w.heap.size [.int .i64 f.1, .int .i64 f.2.1, .slice ao f.2.2.length cap] := by rw [hW]; exact Loc.new _ _ _
    rw [← hW]
    clear hW
    have q0 := L1.cell 0 rfl
    have q1 := L1.cell 1 rfl
    have q2 := L1.cell 2 rfl
    have ql := L1.lt
    repeat (first | go_values | go_skip | go_guarded | go_step | go_upon)
    go_at_call 57
    refine (sfield _ f 6 _ (hf.kept kz) (by omega) hn).mono ?_
    rintro e u1 ⟨rfl, k1⟩
    rw [d1]
    dsimp only
    repeat (first | go_values | go_skip | go_guarded | go_step | go_upon)
    go_ret
    exact ⟨rfl, kz.trans k1⟩
  | true =>
    have hg := of_dec d1
    have hlen : f.2.2.length ≤ 36 := by have := hg.2.2.1; have := mul_in hg.1.1 hg.1.2 hg.2.1.1 hg.2.1.2; omega
    by_cases h2 : 0 ≤ n ∧ n < f.2.2.length
    · have d2 : decide (0 ≤ n ∧ n ≤ (f.2.2.length : Int) - 1) = true := decide_eq_true (by omega)
      by_cases h3 : 0 ≤ s ∧ s < 6
      · have d3 : decide (0 ≤ s ∧ s ≤ 5) = true := decide_eq_true (by omega)
        rw [show maskR f n s = maskA f n s by unfold maskR; rw [dec_yes ⟨hg, h2, h3⟩]; rfl]
        have HG2 : Hid (FieldP 6 f) := hg
        obtain ⟨h0, h1⟩ := h2
        clear hg
        go_enter Try.func37, Try.ntmps37
        go_upto_region 1 with fail
        obtain ⟨W, hW⟩ : ∃ x, x = (w.alloc (.cells #[.int .i64 f.1, .int .i64 f.2.1, .slice ao f.2.2.length cap] 28)) := ⟨_, rfl⟩
        have kz : Kept w W := by rw [hW]; exact (But.refl _ _ _).alloc _
        have L1 : Loc W w.heap.size [.int .i64 f.1, .int .i64 f.2.1, .slice ao f.2.2.length cap] := by rw [hW]; exact Loc.new _ _ _
        rw [← hW]
        clear hW
        have q0 := L1.cell 0 rfl
        have q1 := L1.cell 1 rfl
        have q2 := L1.cell 2 rfl
        have ql := L1.lt
        repeat (first | go_values | go_skip | go_guarded | go_step | go_upon)
        go_at_call 57
        refine (sfield _ f 6 _ (hf.kept kz) (by omega) hn).mono ?_
        rintro e u1 ⟨rfl, k1⟩
        rw [d1]
        have L1 := L1.kept k1
        have kz := kz.trans k1
        clear q0 q1 q2 ql k1
        have q0 := L1.cell 0 rfl
        have q1 := L1.cell 1 rfl
        have q2 := L1.cell 2 rfl
        have ql := L1.lt
        dsimp only
        repeat (first | (go_at_call 52; refine (sIn _ _ _ _).mono ?_; rintro e u2 ⟨rfl, rfl⟩; rw [d2]; dsimp only) | (go_at_call 52; refine (sIn _ _ _ _).mono ?_; rintro e u3 ⟨rfl, rfl⟩; rw [d3]; dsimp only) | go_values | go_skip | go_guarded | go_step | go_upon)
        go_at_call 63
        refine (slmask _ f n s _ (hf.kept kz) HG2.out h0 h1).mono ?_
        rintro e u4 ⟨rfl, k4⟩
        dsimp only
        repeat (first | go_values | go_skip | go_guarded | go_step | go_upon)
        go_ret
        exact ⟨rfl, kz.trans k4⟩
      · have d3 : decide (0 ≤ s ∧ s ≤ 5) = false := decide_eq_false (by omega)
        rw [show maskR f n s = -1 by unfold maskR; rw [dec_no (fun h => h3 h.2.2)]; rfl]
        go_enter Try.func37, Try.ntmps37
        go_upto_region 1 with fail
        obtain ⟨W, hW⟩ : ∃ x, x = (w.alloc (.cells #[.int .i64 f.1, .int .i64 f.2.1, .slice ao f.2.2.length cap] 28)) := ⟨_, rfl⟩
        have kz : Kept w W := by rw [hW]; exact (But.refl _ _ _).alloc _
        have L1 : Loc W w.heap.size [.int .i64 f.1, .int .i64 f.2.1, .slice ao f.2.2.length cap] := by rw [hW]; exact Loc.new _ _ _
        rw [← hW]
        clear hW
        have q0 := L1.cell 0 rfl
        have q1 := L1.cell 1 rfl
        have q2 := L1.cell 2 rfl
        have ql := L1.lt
        repeat (first | go_values | go_skip | go_guarded | go_step | go_upon)
        go_at_call 57
        refine (sfield _ f 6 _ (hf.kept kz) (by omega) hn).mono ?_
        rintro e u1 ⟨rfl, k1⟩
        rw [d1]
        have L1 := L1.kept k1
        have kz := kz.trans k1
        clear q0 q1 q2 ql k1
        have q0 := L1.cell 0 rfl
        have q1 := L1.cell 1 rfl
        have q2 := L1.cell 2 rfl
        have ql := L1.lt
        dsimp only
        repeat (first | (go_at_call 52; refine (sIn _ _ _ _).mono ?_; rintro e u2 ⟨rfl, rfl⟩; rw [d2]; dsimp only) | (go_at_call 52; refine (sIn _ _ _ _).mono ?_; rintro e u3 ⟨rfl, rfl⟩; rw [d3]; dsimp only) | go_values | go_skip | go_guarded | go_step | go_upon)
        go_ret
        exact ⟨rfl, kz⟩
    · have d2 : decide (0 ≤ n ∧ n ≤ (f.2.2.length : Int) - 1) = false := decide_eq_false (by omega)
      rw [show maskR f n s = -1 by unfold maskR; rw [dec_no (fun h => h2 h.2.1)]; rfl]
      go_enter Try.func37, Try.ntmps37
      go_upto_region 1 with fail
      obtain ⟨W, hW⟩ : ∃ x, x = (w.alloc (.cells #[.int .i64 f.1, .int .i64 f.2.1, .slice ao f.2.2.length cap] 28)) := ⟨_, rfl⟩
      have kz : Kept w W := by rw [hW]; exact (But.refl _ _ _).alloc _
      have L1 : Loc W w.heap.size [.int .i64 f.1, .int .i64 f.2.1, .slice ao f.2.2.length cap] := by rw [hW]; exact Loc.new _ _ _
      rw [← hW]
      clear hW
      have q0 := L1.cell 0 rfl
      have q1 := L1.cell 1 rfl
      have q2 := L1.cell 2 rfl
      have ql := L1.lt
      repeat (first | go_values | go_skip | go_guarded | go_step | go_upon)
      go_at_call 57
      refine (sfield _ f 6 _ (hf.kept kz) (by omega) hn).mono ?_
      rintro e u1 ⟨rfl, k1⟩
      rw [d1]
      have L1 := L1.kept k1
      have kz := kz.trans k1
      clear q0 q1 q2 ql k1
      have q0 := L1.cell 0 rfl
      have q1 := L1.cell 1 rfl
      have q2 := L1.cell 2 rfl
      have ql := L1.lt
      dsimp only
      repeat (first | (go_at_call 52; refine (sIn _ _ _ _).mono ?_; rintro e u2 ⟨rfl, rfl⟩; rw [d2]; dsimp only) | go_values | go_skip | go_guarded | go_step | go_upon)
      go_ret
      exact ⟨rfl, kz⟩

end Go.Proofs.Ytopakblckajdmaa
