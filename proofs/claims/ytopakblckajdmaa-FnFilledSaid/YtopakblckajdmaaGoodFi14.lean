/-
  Good fields of good rules: the specification and the program.
-/
import Derived.Test.YtopakblckajdmaaGoodR14
import Derived.Test.YtopakblckajdmaaGoodF14
namespace Go.Proofs.Ytopakblckajdmaa
open Go.ChangeShapes Go.WideShapes Go.ChangeAt Go.RowKit

set_option maxRecDepth 100000
def GoodP (r : RulesD) (f : FieldD) : Prop := RulesP r ∧ FieldP r.1 f

set_option maxHeartbeats 4000000 in
theorem igoodF (rv fv : Value) (r : RulesD) (f : FieldD) (w : World) (hr : RulesAt w rv r) (hf : FieldAt w fv f) (hc : rulesCost r ≤ 1048576) (hn : f.2.2.length ≤ 1048576) :
    Calls Try.prog 24 #[rv, fv] w fun e w' => e = .returned (.bool (dec (GoodP r f))) ∧ Kept w w' := by
  obtain ⟨a1, c1, a2, c2, hfm⟩ := hr.form
  subst hfm
  obtain ⟨ao, cap, hfm⟩ := hf.form
  subst hfm
  have K0 : Kept w ((w.alloc (.cells #[.int .i64 r.1, .slice a1 r.2.1.length c1, .slice a2 r.2.2.length c2] 25)).alloc (.cells #[.int .i64 f.1, .int .i64 f.2.1, .slice ao f.2.2.length cap] 28)) := ((But.refl _ _ _).alloc _).alloc _
  cases d1 : dec (RulesP r) with
  | false =>
    rw [show dec (GoodP r f) = false from dec_no fun h => of_dec_no d1 h.1]
    go_enter Try.func24, Try.ntmps24
    repeat (first | go_values | go_skip | go_guarded | go_step | go_upon)
    go_at_call 19
    refine (igoodR _ r _ (hr.kept K0) hc).mono ?_
    rintro e u1 ⟨rfl, k1⟩
    rw [d1]
    dsimp only
    repeat (first | go_values | go_skip | go_guarded | go_step | go_upon)
    go_ret
    exact ⟨rfl, K0.trans k1⟩
  | true =>
    have h1 := of_dec d1
    have hs : 0 ≤ r.1 ∧ r.1 ≤ 6 := ⟨by have := h1.1; omega, h1.1.2⟩
    go_enter Try.func24, Try.ntmps24
    repeat (first | go_values | go_skip | go_guarded | go_step | go_upon)
    go_at_call 19
    refine (igoodR _ r _ (hr.kept K0) hc).mono ?_
    rintro e u1 ⟨rfl, k1⟩
    rw [d1]
    have L0 := ((Loc.new w [.int .i64 r.1, .slice a1 r.2.1.length c1, .slice a2 r.2.2.length c2] 25).alloc (.cells #[.int .i64 f.1, .int .i64 f.2.1, .slice ao f.2.2.length cap] 28)).kept k1
    have L1 := (Loc.new (w.alloc (.cells #[.int .i64 r.1, .slice a1 r.2.1.length c1, .slice a2 r.2.2.length c2] 25)) [.int .i64 f.1, .int .i64 f.2.1, .slice ao f.2.2.length cap] 28).kept k1
    simp only [World.size_alloc] at L1
    have p0 := L0.cell 0 rfl
    have q0 := L1.cell 0 rfl
    have q1 := L1.cell 1 rfl
    have q2 := L1.cell 2 rfl
    have K1 := K0.trans k1
    dsimp only
    repeat (first | go_values | go_skip | go_guarded | go_step | go_upon)
    go_at_call 58
    refine (itiles _ f _ _ (hf.kept K1) hs hn).mono ?_
    rintro e u2 ⟨rfl, k2⟩
    dsimp only
    repeat (first | go_values | go_skip | go_guarded | go_step | go_upon)
    go_ret
    refine ⟨ret_bool ?_, K1.trans k2⟩
    by_cases h : FieldP r.1 f
    · rw [dec_yes h, dec_yes (show GoodP r f from ⟨h1, h⟩)]
    · rw [dec_no h, dec_no (show ¬ GoodP r f from fun x => h x.2)]

set_option maxHeartbeats 4000000 in
theorem sgoodF (rv fv : Value) (r : RulesD) (f : FieldD) (w : World) (hr : RulesAt w rv r) (hf : FieldAt w fv f) (hc : rulesCost r ≤ 1048576) (hn : f.2.2.length ≤ 1048576) :
    Calls Try.prog 22 #[rv, fv] w fun e w' => e = .returned (.bool (dec (GoodP r f))) ∧ Kept w w' := by
  obtain ⟨a1, c1, a2, c2, hfm⟩ := hr.form
  subst hfm
  obtain ⟨ao, cap, hfm⟩ := hf.form
  subst hfm
  have K0 : Kept w ((w.alloc (.cells #[.int .i64 r.1, .slice a1 r.2.1.length c1, .slice a2 r.2.2.length c2] 25)).alloc (.cells #[.int .i64 f.1, .int .i64 f.2.1, .slice ao f.2.2.length cap] 28)) := ((But.refl _ _ _).alloc _).alloc _
  cases d1 : dec (RulesP r) with
  | false =>
    rw [show dec (GoodP r f) = false from dec_no fun h => of_dec_no d1 h.1]
    go_enter Try.func22, Try.ntmps22
    repeat (first | go_values | go_skip | go_guarded | go_step | go_upon)
    go_at_call 17
    refine (sgoodR _ r _ (hr.kept K0) hc).mono ?_
    rintro e u1 ⟨rfl, k1⟩
    rw [d1]
    dsimp only
    repeat (first | go_values | go_skip | go_guarded | go_step | go_upon)
    go_ret
    exact ⟨rfl, K0.trans k1⟩
  | true =>
    have h1 := of_dec d1
    have hs : 0 ≤ r.1 ∧ r.1 ≤ 6 := ⟨by have := h1.1; omega, h1.1.2⟩
    go_enter Try.func22, Try.ntmps22
    repeat (first | go_values | go_skip | go_guarded | go_step | go_upon)
    go_at_call 17
    refine (sgoodR _ r _ (hr.kept K0) hc).mono ?_
    rintro e u1 ⟨rfl, k1⟩
    rw [d1]
    have L0 := ((Loc.new w [.int .i64 r.1, .slice a1 r.2.1.length c1, .slice a2 r.2.2.length c2] 25).alloc (.cells #[.int .i64 f.1, .int .i64 f.2.1, .slice ao f.2.2.length cap] 28)).kept k1
    have L1 := (Loc.new (w.alloc (.cells #[.int .i64 r.1, .slice a1 r.2.1.length c1, .slice a2 r.2.2.length c2] 25)) [.int .i64 f.1, .int .i64 f.2.1, .slice ao f.2.2.length cap] 28).kept k1
    simp only [World.size_alloc] at L1
    have p0 := L0.cell 0 rfl
    have q0 := L1.cell 0 rfl
    have q1 := L1.cell 1 rfl
    have q2 := L1.cell 2 rfl
    have K1 := K0.trans k1
    dsimp only
    repeat (first | go_values | go_skip | go_guarded | go_step | go_upon)
    go_at_call 57
    refine (sfield _ f _ _ (hf.kept K1) hs hn).mono ?_
    rintro e u2 ⟨rfl, k2⟩
    dsimp only
    repeat (first | go_values | go_skip | go_guarded | go_step | go_upon)
    go_ret
    refine ⟨ret_bool ?_, K1.trans k2⟩
    by_cases h : FieldP r.1 f
    · rw [dec_yes h, dec_yes (show GoodP r f from ⟨h1, h⟩)]
    · rw [dec_no h, dec_no (show ¬ GoodP r f from fun x => h x.2)]

end Go.Proofs.Ytopakblckajdmaa
