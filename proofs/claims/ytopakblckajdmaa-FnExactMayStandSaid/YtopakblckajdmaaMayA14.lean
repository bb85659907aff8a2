/-
  MayStand of the program.
-/
import Derived.Test.YtopakblckajdmaaMayI14
import Derived.Test.YtopakblckajdmaaIHolds14
namespace Go.Proofs.Ytopakblckajdmaa
open Go.ChangeShapes Go.WideShapes Go.ChangeAt Go.RowKit
set_option maxRecDepth 100000
set_option linter.unusedVariables false

set_option maxHeartbeats 8000000 in
theorem imays (rv fv : Value) (r : RulesD) (f : FieldD) (w : World) (hr : RulesAt w rv r) (hf : FieldAt w fv f) (n : Int) (hc : rulesCost r ≤ 1048576) (hn : f.2.2.length ≤ 1048576) :
    Calls Try.prog 28 #[rv, fv, .int .i64 n] w fun e w' => ∃ v', e = .returned (.tuple #[v', .bool (mayA r f n).2]) ∧ NumO w' w.heap.size w'.heap.size v' (mayA r f n).1 ∧ Kept w w' := by
  obtain ⟨a1, c1, a2, c2, hfm⟩ := hr.form
  subst hfm
  obtain ⟨ao, cap, hfm⟩ := hf.form
  subst hfm
  cases d1 : dec (GoodP r f) with
  | false =>
    rw [may_no (fun h => of_dec_no d1 h.1)]
    go_enter Try.func28, Try.ntmps28
    go_upto_region 1 with fail
    obtain ⟨W, hW⟩ : ∃ x, x = ((w.alloc (.cells #[.int .i64 r.1, .slice a1 r.2.1.length c1, .slice a2 r.2.2.length c2] 25)).alloc (.cells #[.int .i64 f.1, .int .i64 f.2.1, .slice ao f.2.2.length cap] 28)) := ⟨_, rfl⟩
    have kz : Kept w W := by rw [hW]; exact ((But.refl _ _ _).alloc _).alloc _
    have L0 : Loc W w.heap.size [.int .i64 r.1, .slice a1 r.2.1.length c1, .slice a2 r.2.2.length c2] := by rw [hW]; exact (Loc.new w [.int .i64 r.1, .slice a1 r.2.1.length c1, .slice a2 r.2.2.length c2] 25).alloc (.cells #[.int .i64 f.1, .int .i64 f.2.1, .slice ao f.2.2.length cap] 28)
    have L1 : Loc W (w.heap.size + 1) [.int .i64 f.1, .int .i64 f.2.1, .slice ao f.2.2.length cap] := by rw [hW]; have := Loc.new (w.alloc (.cells #[.int .i64 r.1, .slice a1 r.2.1.length c1, .slice a2 r.2.2.length c2] 25)) [.int .i64 f.1, .int .i64 f.2.1, .slice ao f.2.2.length cap] 28; simpa using this
    rw [← hW]
    clear hW
    have p0 := L0.cell 0 rfl
    have q0 := L1.cell 0 rfl
    have p1 := L0.cell 1 rfl
    have q1 := L1.cell 1 rfl
    have p2 := L0.cell 2 rfl
    have q2 := L1.cell 2 rfl
    have pl := L0.lt
    have ql := L1.lt
    repeat (first | go_values | go_skip | go_guarded | go_step | go_upon)
    go_at_call 24
    refine (igoodF _ _ r f _ (hr.kept kz) (hf.kept kz) hc hn).mono ?_
    rintro e u1 ⟨rfl, k1⟩
    rw [d1]
    have L0 := L0.kept k1
    have L1 := L1.kept k1
    have kz := kz.trans k1
    clear k1
    clear p0 p1 p2 q0 q1 q2 pl ql
    have p0 := L0.cell 0 rfl
    have q0 := L1.cell 0 rfl
    have p1 := L0.cell 1 rfl
    have q1 := L1.cell 1 rfl
    have p2 := L0.cell 2 rfl
    have q2 := L1.cell 2 rfl
    have pl := L0.lt
    have ql := L1.lt
    dsimp only
    repeat (first | go_values | go_skip | go_guarded | go_step | go_upon)
    go_returns
    exact ⟨_, rfl, no_num _ _ _, kz⟩
  | true =>
    have hg := of_dec d1
    have hlen := good_len hg
    have hs := hg.1.1
    have HG : Hid (GoodP r f) := hg
    by_cases h2 : 0 ≤ n ∧ n < f.2.2.length
    · have d2 : decide (0 ≤ n ∧ n < (f.2.2.length : Int)) = true := decide_eq_true (by omega)
      rw [may_yes ⟨hg, h2⟩]
      obtain ⟨h0, h1⟩ := h2
      clear hg
      go_enter Try.func28, Try.ntmps28
      go_upto_region 1 with fail
      obtain ⟨W, hW⟩ : ∃ x, x = ((w.alloc (.cells #[.int .i64 r.1, .slice a1 r.2.1.length c1, .slice a2 r.2.2.length c2] 25)).alloc (.cells #[.int .i64 f.1, .int .i64 f.2.1, .slice ao f.2.2.length cap] 28)) := ⟨_, rfl⟩
      have kz : Kept w W := by rw [hW]; exact ((But.refl _ _ _).alloc _).alloc _
      have L0 : Loc W w.heap.size [.int .i64 r.1, .slice a1 r.2.1.length c1, .slice a2 r.2.2.length c2] := by rw [hW]; exact (Loc.new w [.int .i64 r.1, .slice a1 r.2.1.length c1, .slice a2 r.2.2.length c2] 25).alloc (.cells #[.int .i64 f.1, .int .i64 f.2.1, .slice ao f.2.2.length cap] 28)
      have L1 : Loc W (w.heap.size + 1) [.int .i64 f.1, .int .i64 f.2.1, .slice ao f.2.2.length cap] := by rw [hW]; have := Loc.new (w.alloc (.cells #[.int .i64 r.1, .slice a1 r.2.1.length c1, .slice a2 r.2.2.length c2] 25)) [.int .i64 f.1, .int .i64 f.2.1, .slice ao f.2.2.length cap] 28; simpa using this
      rw [← hW]
      clear hW
      have p0 := L0.cell 0 rfl
      have q0 := L1.cell 0 rfl
      have p1 := L0.cell 1 rfl
      have q1 := L1.cell 1 rfl
      have p2 := L0.cell 2 rfl
      have q2 := L1.cell 2 rfl
      have pl := L0.lt
      have ql := L1.lt
      repeat (first | go_values | go_skip | go_guarded | go_step | go_upon)
      go_at_call 24
      refine (igoodF _ _ r f _ (hr.kept kz) (hf.kept kz) hc hn).mono ?_
      rintro e u1 ⟨rfl, k1⟩
      rw [d1]
      have L0 := L0.kept k1
      have L1 := L1.kept k1
      have kz := kz.trans k1
      clear k1
      clear p0 p1 p2 q0 q1 q2 pl ql
      have p0 := L0.cell 0 rfl
      have q0 := L1.cell 0 rfl
      have p1 := L0.cell 1 rfl
      have q1 := L1.cell 1 rfl
      have p2 := L0.cell 2 rfl
      have q2 := L1.cell 2 rfl
      have pl := L0.lt
      have ql := L1.lt
      dsimp only
      repeat (first | go_values | go_skip | go_guarded | go_step | go_upon)
      go_at_call 60
      refine (ihas _ f n _ (hf.kept kz)).mono ?_
      rintro e u2 ⟨rfl, k2⟩
      rw [d2]
      have L0 := L0.kept k2
      have L1 := L1.kept k2
      have kz := kz.trans k2
      clear k2
      clear p0 p1 p2 q0 q1 q2 pl ql
      have p0 := L0.cell 0 rfl
      have q0 := L1.cell 0 rfl
      have p1 := L0.cell 1 rfl
      have q1 := L1.cell 1 rfl
      have p2 := L0.cell 2 rfl
      have q2 := L1.cell 2 rfl
      have pl := L0.lt
      have ql := L1.lt
      dsimp only
      repeat (first | go_values | go_skip | go_guarded | go_step | go_upon)
      go_at_call 44
      refine (itil _ _ r f _ (hr.kept kz) (hf.kept kz)).mono ?_
      rintro e u3 ⟨a1', c1', a2', c2', ao', cap', e1, e2, rfl, k3⟩
      cases e1
      cases e2
      have kz := kz.trans k3
      have hz3 := kz.size
      dsimp only
      repeat (first | go_values | go_skip | go_guarded | go_step | go_upon)
      go_at_call 61
      refine (isorts _ r f n _ (til_at (hr.kept kz) (hf.kept kz)) HG.out h0 h1).mono ?_
      rintro e u4 ⟨v4, rfl, o4, k4⟩
      dsimp only
      repeat (first | go_values | go_skip | go_guarded | go_step | go_upon)
      go_returns
      exact ⟨_, rfl, o4.mono hz3 (Nat.le_refl _), kz.trans k4⟩
    · have d2 : decide (0 ≤ n ∧ n < (f.2.2.length : Int)) = false := decide_eq_false (by omega)
      rw [may_no (fun h => h2 h.2)]
      clear hg
      go_enter Try.func28, Try.ntmps28
      go_upto_region 1 with fail
      obtain ⟨W, hW⟩ : ∃ x, x = ((w.alloc (.cells #[.int .i64 r.1, .slice a1 r.2.1.length c1, .slice a2 r.2.2.length c2] 25)).alloc (.cells #[.int .i64 f.1, .int .i64 f.2.1, .slice ao f.2.2.length cap] 28)) := ⟨_, rfl⟩
      have kz : Kept w W := by rw [hW]; exact ((But.refl _ _ _).alloc _).alloc _
      have L0 : Loc W w.heap.size [.int .i64 r.1, .slice a1 r.2.1.length c1, .slice a2 r.2.2.length c2] := by rw [hW]; exact (Loc.new w [.int .i64 r.1, .slice a1 r.2.1.length c1, .slice a2 r.2.2.length c2] 25).alloc (.cells #[.int .i64 f.1, .int .i64 f.2.1, .slice ao f.2.2.length cap] 28)
      have L1 : Loc W (w.heap.size + 1) [.int .i64 f.1, .int .i64 f.2.1, .slice ao f.2.2.length cap] := by rw [hW]; have := Loc.new (w.alloc (.cells #[.int .i64 r.1, .slice a1 r.2.1.length c1, .slice a2 r.2.2.length c2] 25)) [.int .i64 f.1, .int .i64 f.2.1, .slice ao f.2.2.length cap] 28; simpa using this
      rw [← hW]
      clear hW
      have p0 := L0.cell 0 rfl
      have q0 := L1.cell 0 rfl
      have p1 := L0.cell 1 rfl
      have q1 := L1.cell 1 rfl
      have p2 := L0.cell 2 rfl
      have q2 := L1.cell 2 rfl
      have pl := L0.lt
      have ql := L1.lt
      repeat (first | go_values | go_skip | go_guarded | go_step | go_upon)
      go_at_call 24
      refine (igoodF _ _ r f _ (hr.kept kz) (hf.kept kz) hc hn).mono ?_
      rintro e u1 ⟨rfl, k1⟩
      rw [d1]
      have L0 := L0.kept k1
      have L1 := L1.kept k1
      have kz := kz.trans k1
      clear k1
      clear p0 p1 p2 q0 q1 q2 pl ql
      have p0 := L0.cell 0 rfl
      have q0 := L1.cell 0 rfl
      have p1 := L0.cell 1 rfl
      have q1 := L1.cell 1 rfl
      have p2 := L0.cell 2 rfl
      have q2 := L1.cell 2 rfl
      have pl := L0.lt
      have ql := L1.lt
      dsimp only
      repeat (first | (go_at_call 60; refine (ihas _ f n _ (hf.kept kz)).mono ?_; rintro e u2 ⟨rfl, k2⟩; rw [d2]; have kz := kz.trans k2; dsimp only) | go_values | go_skip | go_guarded | go_step | go_upon)
      go_returns
      exact ⟨_, rfl, no_num _ _ _, kz⟩

end Go.Proofs.Ytopakblckajdmaa
