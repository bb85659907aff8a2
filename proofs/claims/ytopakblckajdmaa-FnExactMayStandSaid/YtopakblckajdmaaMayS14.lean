/-
  MayStand of the specification.
-/
import Derived.Test.YtopakblckajdmaaMayI14
import Derived.Test.YtopakblckajdmaaIHolds14
namespace Go.Proofs.Ytopakblckajdmaa
open Go.ChangeShapes Go.WideShapes Go.ChangeAt Go.RowKit
set_option maxRecDepth 100000
set_option linter.unusedVariables false

set_option maxHeartbeats 8000000 in
theorem smays (rv fv : Value) (r : RulesD) (f : FieldD) (w : World) (hr : RulesAt w rv r) (hf : FieldAt w fv f) (n : Int) (hc : rulesCost r ≤ 1048576) (hn : f.2.2.length ≤ 1048576) :
    Calls Try.prog 27 #[rv, fv, .int .i64 n] w fun e w' => ∃ v', e = .returned (.tuple #[v', .bool (mayA r f n).2]) ∧ NumO w' w.heap.size w'.heap.size v' (mayA r f n).1 ∧ Kept w w' := by
  obtain ⟨a1, c1, a2, c2, hfm⟩ := hr.form
  subst hfm
  obtain ⟨ao, cap, hfm⟩ := hf.form
  subst hfm
  cases d1 : dec (GoodP r f) with
  | false =>
    rw [may_no (fun h => of_dec_no d1 h.1)]
    go_enter Try.func27, Try.ntmps27
    go_upto_region 1 with fail
    obtain ⟨W, hW⟩ : ∃ x, x = ((w.alloc (.cells #[.int .i64 r.1, .slice a1 r.2.1.length c1, .slice a2 r.2.2.length c2] 25)).alloc (.cells #[.int .i64 f.1, .int .i64 f.2.1, .slice ao f.2.2.length cap] 28)) := ⟨_, rfl⟩
    have kz : Kept w W := by rw [hW]; exact ((But.refl _ _ _).alloc _).alloc _
    have L0 : Loc W w.heap.size [.int .i64 r.1, .slice a1 r.2.1.length c1, .slice a2 r.2.2.length c2] := by rw [hW]; exact (Loc.new w [.int .i64 r.1, .slice a1 r.2.1.length c1, .slice a2 r.2.2.length c2] 25).alloc (.cells #[.int .i64 f.1, .int .i64 f.2.1, .slice ao f.2.2.length cap] 28)
    have L1 : Loc W (w.heap.size + 1) [.int .i64 f.1, .int .i64 f.2.1, .slice ao f.2.2.length cap] := by rw [hW]; have := Loc.new (w.alloc (.cells #[.int .i64 r.1, .slice a1 r.2.1.length c1, .slice a2 r.2.2.length c2] 25)) [.int .i64 f.1, .int .i64 f.2.1, .slice ao f.2.2.length cap] 28; simpa using this
    rw [← hW]
    clear hW
    have p0 := L0.cell 0 rfl
    have q0 := L1.cell 0 rfl
    have p1 := L0.cell 1 rfl
    have q1 := L1.cell 1 rfl
    have p2 := L0.cell 2 rfl
    have q2 := L1.cell 2 rfl
    have pl := L0.lt
    have ql := L1.lt
    repeat (first | go_values | go_skip | go_guarded | go_step | go_upon)
    go_at_call 22
    refine (sgoodF _ _ r f _ (hr.kept kz) (hf.kept kz) hc hn).mono ?_
    rintro e u1 ⟨rfl, k1⟩
    rw [d1]
    have L0 := L0.kept k1
    have L1 := L1.kept k1
    have kz := kz.trans k1
    clear k1
    clear p0 p1 p2 q0 q1 q2 pl ql
    have p0 := L0.cell 0 rfl
    have q0 := L1.cell 0 rfl
    have p1 := L0.cell 1 rfl
    have q1 := L1.cell 1 rfl
    have p2 := L0.cell 2 rfl
    have q2 := L1.cell 2 rfl
    have pl := L0.lt
    have ql := L1.lt
    dsimp only
    repeat (first | go_values | go_skip | go_guarded | go_step | go_upon)
    go_returns
    exact ⟨_, rfl, no_num _ _ _, kz⟩
  | true =>
    have hg := of_dec d1
    have hlen := good_len hg
    have hs := hg.1.1
    have HG : Hid (GoodP r f) := hg
    by_cases h2 : 0 ≤ n ∧ n < f.2.2.length
    · have d2 : decide (0 ≤ n ∧ n ≤ (f.2.2.length : Int) - 1) = true := decide_eq_true (by omega)
      rw [may_yes ⟨hg, h2⟩]
      obtain ⟨h0, h1⟩ := h2
      clear hg
      go_enter Try.func27, Try.ntmps27
      go_upto_region 1 with fail
      obtain ⟨W, hW⟩ : ∃ x, x = ((w.alloc (.cells #[.int .i64 r.1, .slice a1 r.2.1.length c1, .slice a2 r.2.2.length c2] 25)).alloc (.cells #[.int .i64 f.1, .int .i64 f.2.1, .slice ao f.2.2.length cap] 28)) := ⟨_, rfl⟩
      have kz : Kept w W := by rw [hW]; exact ((But.refl _ _ _).alloc _).alloc _
      have L0 : Loc W w.heap.size [.int .i64 r.1, .slice a1 r.2.1.length c1, .slice a2 r.2.2.length c2] := by rw [hW]; exact (Loc.new w [.int .i64 r.1, .slice a1 r.2.1.length c1, .slice a2 r.2.2.length c2] 25).alloc (.cells #[.int .i64 f.1, .int .i64 f.2.1, .slice ao f.2.2.length cap] 28)
      have L1 : Loc W (w.heap.size + 1) [.int .i64 f.1, .int .i64 f.2.1, .slice ao f.2.2.length cap] := by rw [hW]; have := Loc.new (w.alloc (.cells #[.int .i64 r.1, .slice a1 r.2.1.length c1, .slice a2 r.2.2.length c2] 25)) [.int .i64 f.1, .int .i64 f.2.1, .slice ao f.2.2.length cap] 28; simpa using this
      rw [← hW]
      clear hW
      have p0 := L0.cell 0 rfl
      have q0 := L1.cell 0 rfl
      have p1 := L0.cell 1 rfl
      have q1 := L1.cell 1 rfl
      have p2 := L0.cell 2 rfl
      have q2 := L1.cell 2 rfl
      have pl := L0.lt
      have ql := L1.lt
      repeat (first | go_values | go_skip | go_guarded | go_step | go_upon)
      go_at_call 22
      refine (sgoodF _ _ r f _ (hr.kept kz) (hf.kept kz) hc hn).mono ?_
      rintro e u1 ⟨rfl, k1⟩
      rw [d1]
      have L0 := L0.kept k1
      have L1 := L1.kept k1
      have kz := kz.trans k1
      clear k1
      clear p0 p1 p2 q0 q1 q2 pl ql
      have p0 := L0.cell 0 rfl
      have q0 := L1.cell 0 rfl
      have p1 := L0.cell 1 rfl
      have q1 := L1.cell 1 rfl
      have p2 := L0.cell 2 rfl
      have q2 := L1.cell 2 rfl
      have pl := L0.lt
      have ql := L1.lt
      dsimp only
      obtain ⟨i0, hi0, hz0, hz1, hz2⟩ := info_parts info_num
      repeat (first | (go_at_call 52; refine (sIn _ _ _ _).mono ?_; rintro e u2 ⟨rfl, hu2⟩; rw [hu2, d2]; clear hu2; dsimp only) | go_values | go_skip | go_guarded | go_step | go_upon)
      clear p0 p1 p2 q0 q1 q2 pl ql
      have hr := hr.kept kz
      have hf := hf.kept kz
      go_loopw [8, 9] (fun x i wr => ∃ (k : Nat) (ao' : Option Addr) (c' m : Nat), (k : Int) ≤ r.1 ∧ i = .int .i64 k ∧ Hid (m = (cutL (fitB r f n) k).length) ∧ x = .slice ao' m c' ∧ Hid (wr.ownsRow u1.heap.size 3 1 (.slice ao' m c') m ((cutL (fitB r f n) k).flatMap numC)) ∧ Hid (Kept u1 wr)) (fun _ i _ => (r.1).toNat - (intOf i).toNat)
      case atStart => exact ⟨0, none, 0, 0, by omega, rfl, rfl, rfl, World.ownsRow_nil _ _ _ _, But.refl _ _ _⟩
      case round =>
        obtain ⟨k, ao', c', m, hk, rfl, HM, rfl, HO, HK⟩ := hrel
        have N0 := L0.kept HK.out
        have N1 := L1.kept HK.out
        have p0 := N0.cell 0 rfl
        have q0 := N1.cell 0 rfl
        have p1 := N0.cell 1 rfl
        have q1 := N1.cell 1 rfl
        have p2 := N0.cell 2 rfl
        have q2 := N1.cell 2 rfl
        by_cases hlt : (k : Int) < r.1
        · have hltd : decide ((k : Int) < r.1) = true := decide_eq_true hlt
          have hml := cutL_len (fitB r f n) k
          rw [← HM.out] at hml
          have hwz := HK.out.size
          cases q : (fitB r f n) k with
          | true =>
            have HP : Hid ((fitB r f n) k = true) := q
            repeat (first | (go_at_call 50; refine (sfits _ _ r f n k _ (hr.kept HK.out) (hf.kept HK.out) HG.out h0 h1 ⟨by omega, hlt⟩).mono ?_; rintro e y1 ⟨rfl, ky⟩; rw [show dec (FitP r f n (k : Int)) = fitB r f n k from rfl, q]; dsimp only) | (at_builtin; refine forgetL (fun W => W = y1.alloc (.cells #[.int .i64 (k : Int)] 3)) rfl ?_) | go_values | go_skip | go_guarded | go_step | go_upon)
            intro WA hWA
            rw [hWA]
            clear hWA WA
            have hyz := ky.size
            refine wpList_append_own _ rfl _ _ 26 rfl u1.heap.size 3 i0 (.int .i64 0) 1 8 Try.underlying26 hi0 hz0 hz1 hz2 rfl (by decide) _ _ _ rfl (own_kept HO.out (ky.alloc _)) ⟨y1.heap.size, 0, none⟩ 1 1 [.int .i64 (k : Int)] rfl rfl (news1 (Loc.new y1 [.int .i64 (k : Int)] 3)) (by simp [Value.oneCell']) (by unfold maxLen; omega) (by omega) (by simp; omega) ?_
            intro v' w2 hown' hgrow _
            obtain ⟨ao5, cap5, hf5, _⟩ := own_form hown'
            subst hf5
            have HK5 : Hid (Kept u1 w2) := ((HK.out.trans ky).alloc _).grown hgrow (by intro x hx; have := own_lt HO.out hx; omega)
            have HW : Hid (w2.ownsRow u1.heap.size 3 1 (.slice ao5 (m + 1) cap5) (m + 1) ((cutL (fitB r f n) k).flatMap numC ++ [.int .i64 (k : Int)])) := hown'
            clear hgrow hown'
            repeat (first | go_values | go_skip | go_guarded | go_step | go_upon)
            refine ⟨⟨k + 1, ao5, cap5, m + 1, by omega, by go_num, ?_, rfl, ?_, HK5⟩, by simp [intOf]; omega⟩
            · show m + 1 = _
              rw [cutL_yes HP.out, HM.out]; simp
            · show World.ownsRow _ _ _ _ _ _ _
              rw [cutL_yes HP.out, List.flatMap_append]
              exact HW.out
          | false =>
            have HP : Hid ((fitB r f n) k = false) := q
            repeat (first | (go_at_call 50; refine (sfits _ _ r f n k _ (hr.kept HK.out) (hf.kept HK.out) HG.out h0 h1 ⟨by omega, hlt⟩).mono ?_; rintro e y1 ⟨rfl, ky⟩; rw [show dec (FitP r f n (k : Int)) = fitB r f n k from rfl, q]; dsimp only) | go_values | go_skip | go_guarded | go_step | go_upon)
            refine ⟨⟨k + 1, ao', c', m, by omega, by go_num, ?_, rfl, ?_, HK.out.trans ky⟩, by simp [intOf]; omega⟩
            · show m = _
              rw [cutL_no HP.out]; exact HM.out
            · show World.ownsRow _ _ _ _ _ _ _
              rw [cutL_no HP.out]; exact own_kept HO.out ky
        · have hltd : decide ((k : Int) < r.1) = false := decide_eq_false hlt
          have hke : k = (r.1).toNat := by omega
          have HKE : Hid (k = (r.1).toNat) := hke
          clear hke
          repeat (first | go_values | go_skip | go_guarded | go_step | go_upon)
          go_returns
          refine ⟨_, rfl, ?_, kz.trans HK.out⟩
          have hm := HM.out
          have h2 : NumO wr u1.heap.size wr.heap.size (.slice ao' m c') (cutL (fitB r f n) k) := by unfold NumO; rw [← hm]; exact RowO.top HO.out
          have hz := kz.size
          rw [HKE.out] at h2
          exact NumO.mono h2 hz (Nat.le_refl _)

    · have d2 : decide (0 ≤ n ∧ n ≤ (f.2.2.length : Int) - 1) = false := decide_eq_false (by omega)
      rw [may_no (fun h => h2 h.2)]
      clear hg
      go_enter Try.func27, Try.ntmps27
      go_upto_region 1 with fail
      obtain ⟨W, hW⟩ : ∃ x, x = ((w.alloc (.cells #[.int .i64 r.1, .slice a1 r.2.1.length c1, .slice a2 r.2.2.length c2] 25)).alloc (.cells #[.int .i64 f.1, .int .i64 f.2.1, .slice ao f.2.2.length cap] 28)) := ⟨_, rfl⟩
      have kz : Kept w W := by rw [hW]; exact ((But.refl _ _ _).alloc _).alloc _
      have L0 : Loc W w.heap.size [.int .i64 r.1, .slice a1 r.2.1.length c1, .slice a2 r.2.2.length c2] := by rw [hW]; exact (Loc.new w [.int .i64 r.1, .slice a1 r.2.1.length c1, .slice a2 r.2.2.length c2] 25).alloc (.cells #[.int .i64 f.1, .int .i64 f.2.1, .slice ao f.2.2.length cap] 28)
      have L1 : Loc W (w.heap.size + 1) [.int .i64 f.1, .int .i64 f.2.1, .slice ao f.2.2.length cap] := by rw [hW]; have := Loc.new (w.alloc (.cells #[.int .i64 r.1, .slice a1 r.2.1.length c1, .slice a2 r.2.2.length c2] 25)) [.int .i64 f.1, .int .i64 f.2.1, .slice ao f.2.2.length cap] 28; simpa using this
      rw [← hW]
      clear hW
      have p0 := L0.cell 0 rfl
      have q0 := L1.cell 0 rfl
      have p1 := L0.cell 1 rfl
      have q1 := L1.cell 1 rfl
      have p2 := L0.cell 2 rfl
      have q2 := L1.cell 2 rfl
      have pl := L0.lt
      have ql := L1.lt
      repeat (first | go_values | go_skip | go_guarded | go_step | go_upon)
      go_at_call 22
      refine (sgoodF _ _ r f _ (hr.kept kz) (hf.kept kz) hc hn).mono ?_
      rintro e u1 ⟨rfl, k1⟩
      rw [d1]
      have L0 := L0.kept k1
      have L1 := L1.kept k1
      have kz := kz.trans k1
      clear k1
      clear p0 p1 p2 q0 q1 q2 pl ql
      have p0 := L0.cell 0 rfl
      have q0 := L1.cell 0 rfl
      have p1 := L0.cell 1 rfl
      have q1 := L1.cell 1 rfl
      have p2 := L0.cell 2 rfl
      have q2 := L1.cell 2 rfl
      have pl := L0.lt
      have ql := L1.lt
      dsimp only
      repeat (first | (go_at_call 52; refine (sIn _ _ _ _).mono ?_; rintro e u2 ⟨rfl, hu2⟩; rw [hu2, d2]; clear hu2; dsimp only) | go_values | go_skip | go_guarded | go_step | go_upon)
      go_returns
      exact ⟨_, rfl, no_num _ _ _, kz⟩

end Go.Proofs.Ytopakblckajdmaa
