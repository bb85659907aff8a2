/-
  FillField of the program.
-/
import Derived.Test.YtopakblckajdmaaFillI14
import Derived.Test.YtopakblckajdmaaOpenI14
import Derived.Test.YtopakblckajdmaaIHolds14
namespace Go.Proofs.Ytopakblckajdmaa
open Go.ChangeShapes Go.WideShapes Go.ChangeAt Go.RowKit

set_option maxRecDepth 100000
set_option linter.unusedVariables false
def FilledO (w : World) (lo hi : Nat) (v : Value) (c : FilledD) : Prop := ∃ s, v = .agg #[.bool c.1, .int .i64 c.2.1.1, .int .i64 c.2.1.2.1, s, .int .i64 c.2.2] ∧ NumO w lo hi s c.2.1.2.2
def FilledAt (w : World) (v : Value) (c : FilledD) : Prop := ∃ s, v = .agg #[.bool c.1, .int .i64 c.2.1.1, .int .i64 c.2.1.2.1, s, .int .i64 c.2.2] ∧ NumAt w s c.2.1.2.2
theorem no_filled (w : World) (lo hi : Nat) (t : Int) : FilledO w lo hi (.agg #[.bool false, .int .i64 0, .int .i64 0, .slice none 0 0, .int .i64 t]) (false, (0, 0, []), t) := ⟨_, rfl, no_num _ _ _⟩
theorem fillA_bad {r : RulesD} {f : FieldD} (h : ¬ GoodP r f) : fillA r f = ((false, (0, 0, []), 0), false) := by unfold fillA; rw [dec_no h]; rfl
theorem fillA_not {r : RulesD} {f : FieldD} (h : GoodP r f) (h2 : ¬ HoldsP r f) : fillA r f = ((false, (0, 0, []), 0), true) := by unfold fillA; rw [dec_yes h, dec_no h2]; rfl
theorem fillA_yes {r : RulesD} {f : FieldD} (h : GoodP r f) (h2 : HoldsP r f) : fillA r f = (fillF r f, true) := by unfold fillA; rw [dec_yes h, dec_yes h2]; rfl
theorem fillF_yes {r : RulesD} {f : FieldD} {x : Bool × List Int × Nat} (hx : fillR r f.1 f.2.1 (openL f.2.2) f.2.2 0 0 = x) (h : x.1 = true) : fillF r f = (true, (f.1, f.2.1, x.2.1), (x.2.2 : Int)) := by unfold fillF; rw [hx]; dsimp only; rw [h]; rfl
theorem fillF_no {r : RulesD} {f : FieldD} {x : Bool × List Int × Nat} (hx : fillR r f.1 f.2.1 (openL f.2.2) f.2.2 0 0 = x) (h : x.1 = false) : fillF r f = (false, (0, 0, []), (x.2.2 : Int)) := by unfold fillF; rw [hx]; dsimp only; rw [h]; rfl

/-- A variable of six cells, read alone. -/
def LocR6 (w : World) (b : Nat) (x0 x1 x2 x3 x4 x5 : Value) : Prop := w.cell? ⟨b, 0, none⟩ = some x0 ∧ w.cell? ⟨b, 1, none⟩ = some x1 ∧ w.cell? ⟨b, 2, none⟩ = some x2 ∧ w.cell? ⟨b, 3, none⟩ = some x3 ∧ w.cell? ⟨b, 4, none⟩ = some x4 ∧ w.cell? ⟨b, 5, none⟩ = some x5
theorem own_at {w : World} {lo hi g cap n : Nat} {l : List NumD} (h : NumO w lo hi (.slice (some ⟨g, 0, none⟩) n cap) l) : NumO w g (g + 1) (.slice (some ⟨g, 0, none⟩) n cap) l := by
  obtain ⟨⟨h1, h2⟩, h3⟩ := h
  refine ⟨⟨h1, ?_⟩, fun x hx => ?_⟩
  · rcases h2 with ⟨hf, _⟩ | ⟨g', c2, cur, hf, _, rest⟩
    · cases hf
    · cases hf
      exact .inr ⟨g, cap, cur, rfl, Nat.le_refl _, rest⟩
  · cases hx; exact Nat.lt_succ_self _

set_option maxHeartbeats 8000000 in
theorem ifillF (rv fv : Value) (r : RulesD) (f : FieldD) (w : World) (hr : RulesAt w rv r) (hf : FieldAt w fv f) (hc : rulesCost r ≤ 1048576) (hn : f.2.2.length ≤ 1048576) :
    Calls Try.prog 12 #[rv, fv] w fun e w' => ∃ v', e = .returned (.tuple #[v', .bool (fillA r f).2]) ∧ FilledO w' w.heap.size w'.heap.size v' (fillA r f).1 ∧ Kept w w' := by
  obtain ⟨a1, c1, a2, c2, hfm⟩ := hr.form
  subst hfm
  obtain ⟨ao, cap, hfm⟩ := hf.form
  subst hfm
  cases d1 : dec (GoodP r f) with
  | false =>
    rw [fillA_bad (of_dec_no d1)]
    go_enter Try.func12, Try.ntmps12
    go_upto_region 1 with fail
    obtain ⟨W, hW⟩ : ∃ x, x = ((w.alloc (.cells #[.int .i64 r.1, .slice a1 r.2.1.length c1, .slice a2 r.2.2.length c2] 25)).alloc (.cells #[.int .i64 f.1, .int .i64 f.2.1, .slice ao f.2.2.length cap] 28)).alloc (.cells #[.bool false, .int .i64 0, .int .i64 0, .slice none 0 0, .int .i64 0] 32) := ⟨_, rfl⟩
    have kz : Kept w W := by rw [hW]; exact (((But.refl _ _ _).alloc _).alloc _).alloc _
    have L0 : Loc W w.heap.size [.int .i64 r.1, .slice a1 r.2.1.length c1, .slice a2 r.2.2.length c2] := by rw [hW]; exact ((Loc.new w [.int .i64 r.1, .slice a1 r.2.1.length c1, .slice a2 r.2.2.length c2] 25).alloc (.cells #[.int .i64 f.1, .int .i64 f.2.1, .slice ao f.2.2.length cap] 28)).alloc _
    have L1 : Loc W (w.heap.size + 1) [.int .i64 f.1, .int .i64 f.2.1, .slice ao f.2.2.length cap] := by rw [hW]; have := (Loc.new (w.alloc (.cells #[.int .i64 r.1, .slice a1 r.2.1.length c1, .slice a2 r.2.2.length c2] 25)) [.int .i64 f.1, .int .i64 f.2.1, .slice ao f.2.2.length cap] 28).alloc (.cells #[.bool false, .int .i64 0, .int .i64 0, .slice none 0 0, .int .i64 0] 32); simpa using this
    have L2 : Loc W (w.heap.size + 2) [.bool false, .int .i64 0, .int .i64 0, .slice none 0 0, .int .i64 0] := by rw [hW]; have := Loc.new ((w.alloc (.cells #[.int .i64 r.1, .slice a1 r.2.1.length c1, .slice a2 r.2.2.length c2] 25)).alloc (.cells #[.int .i64 f.1, .int .i64 f.2.1, .slice ao f.2.2.length cap] 28)) [.bool false, .int .i64 0, .int .i64 0, .slice none 0 0, .int .i64 0] 32; simpa using this
    rw [← hW]
    clear hW
    have p0 := L0.cell 0 rfl
    have q0 := L1.cell 0 rfl
    have p1 := L0.cell 1 rfl
    have q1 := L1.cell 1 rfl
    have p2 := L0.cell 2 rfl
    have q2 := L1.cell 2 rfl
    have pl := L0.lt
    have ql := L1.lt
    have rl := L2.lt
    have r0c := L2.cell 0 rfl
    have rf0 := L2.frozen 0
    have r1c := L2.cell 1 rfl
    have rf1 := L2.frozen 1
    have r2c := L2.cell 2 rfl
    have rf2 := L2.frozen 2
    have r3c := L2.cell 3 rfl
    have rf3 := L2.frozen 3
    have r4c := L2.cell 4 rfl
    have rf4 := L2.frozen 4
    repeat (first | go_values | go_skip | go_guarded | go_step | go_upon)
    go_at_call 24
    refine (igoodF _ _ r f _ (hr.kept kz) (hf.kept kz) hc hn).mono ?_
    rintro e u1 ⟨rfl, k1⟩
    rw [d1]
    have L0 := L0.kept k1
    have L1 := L1.kept k1
    have L2 := L2.kept k1
    have kz := kz.trans k1
    clear k1
    clear p0 p1 p2 q0 q1 q2 pl ql rl r0c rf0 r1c rf1 r2c rf2 r3c rf3 r4c rf4
    have p0 := L0.cell 0 rfl
    have q0 := L1.cell 0 rfl
    have p1 := L0.cell 1 rfl
    have q1 := L1.cell 1 rfl
    have p2 := L0.cell 2 rfl
    have q2 := L1.cell 2 rfl
    have pl := L0.lt
    have ql := L1.lt
    have rl := L2.lt
    have r0c := L2.cell 0 rfl
    have rf0 := L2.frozen 0
    have r1c := L2.cell 1 rfl
    have rf1 := L2.frozen 1
    have r2c := L2.cell 2 rfl
    have rf2 := L2.frozen 2
    have r3c := L2.cell 3 rfl
    have rf3 := L2.frozen 3
    have r4c := L2.cell 4 rfl
    have rf4 := L2.frozen 4
    dsimp only
    repeat (first | go_values | go_skip | go_guarded | go_step | go_upon)
    refine bodyPost_ret (v := .tuple #[.agg #[.bool false, .int .i64 0, .int .i64 0, .slice none 0 0, .int .i64 0], .bool false]) (by simp [results, Try.results12, go_sem, *]) rfl ?_
    exact ⟨_, rfl, no_filled _ _ _ _, ((((kz.setNew (by first | (simp; done) | (simp; omega)) _).setNew (by first | (simp; done) | (simp; omega)) _).setNew (by first | (simp; done) | (simp; omega)) _).setNew (by first | (simp; done) | (simp; omega)) _).setNew (by first | (simp; done) | (simp; omega)) _⟩
  | true =>
    have hg := of_dec d1
    have hlen := good_len hg
    have hpos : 0 < f.2.2.length := by have := hg.2.2.2.1; have := mul_in hg.2.1.1 hg.2.1.2 hg.2.2.1.1 hg.2.2.1.2; omega
    have HG : Hid (GoodP r f) := hg
    cases d2' : dec (HoldsP r f) with
    | false =>
      rw [fillA_not hg (of_dec_no d2')]
      have d2 : dec (GoodP r f ∧ HoldsP r f) = false := by rw [dec_and, d2']; simp
      clear hg
      go_enter Try.func12, Try.ntmps12
      go_upto_region 1 with fail
      obtain ⟨W, hW⟩ : ∃ x, x = ((w.alloc (.cells #[.int .i64 r.1, .slice a1 r.2.1.length c1, .slice a2 r.2.2.length c2] 25)).alloc (.cells #[.int .i64 f.1, .int .i64 f.2.1, .slice ao f.2.2.length cap] 28)).alloc (.cells #[.bool false, .int .i64 0, .int .i64 0, .slice none 0 0, .int .i64 0] 32) := ⟨_, rfl⟩
      have kz : Kept w W := by rw [hW]; exact (((But.refl _ _ _).alloc _).alloc _).alloc _
      have L0 : Loc W w.heap.size [.int .i64 r.1, .slice a1 r.2.1.length c1, .slice a2 r.2.2.length c2] := by rw [hW]; exact ((Loc.new w [.int .i64 r.1, .slice a1 r.2.1.length c1, .slice a2 r.2.2.length c2] 25).alloc (.cells #[.int .i64 f.1, .int .i64 f.2.1, .slice ao f.2.2.length cap] 28)).alloc _
      have L1 : Loc W (w.heap.size + 1) [.int .i64 f.1, .int .i64 f.2.1, .slice ao f.2.2.length cap] := by rw [hW]; have := (Loc.new (w.alloc (.cells #[.int .i64 r.1, .slice a1 r.2.1.length c1, .slice a2 r.2.2.length c2] 25)) [.int .i64 f.1, .int .i64 f.2.1, .slice ao f.2.2.length cap] 28).alloc (.cells #[.bool false, .int .i64 0, .int .i64 0, .slice none 0 0, .int .i64 0] 32); simpa using this
      have L2 : Loc W (w.heap.size + 2) [.bool false, .int .i64 0, .int .i64 0, .slice none 0 0, .int .i64 0] := by rw [hW]; have := Loc.new ((w.alloc (.cells #[.int .i64 r.1, .slice a1 r.2.1.length c1, .slice a2 r.2.2.length c2] 25)).alloc (.cells #[.int .i64 f.1, .int .i64 f.2.1, .slice ao f.2.2.length cap] 28)) [.bool false, .int .i64 0, .int .i64 0, .slice none 0 0, .int .i64 0] 32; simpa using this
      rw [← hW]
      clear hW
      have p0 := L0.cell 0 rfl
      have q0 := L1.cell 0 rfl
      have p1 := L0.cell 1 rfl
      have q1 := L1.cell 1 rfl
      have p2 := L0.cell 2 rfl
      have q2 := L1.cell 2 rfl
      have pl := L0.lt
      have ql := L1.lt
      have rl := L2.lt
      have r0c := L2.cell 0 rfl
      have rf0 := L2.frozen 0
      have r1c := L2.cell 1 rfl
      have rf1 := L2.frozen 1
      have r2c := L2.cell 2 rfl
      have rf2 := L2.frozen 2
      have r3c := L2.cell 3 rfl
      have rf3 := L2.frozen 3
      have r4c := L2.cell 4 rfl
      have rf4 := L2.frozen 4
      repeat (first | go_values | go_skip | go_guarded | go_step | go_upon)
      go_at_call 24
      refine (igoodF _ _ r f _ (hr.kept kz) (hf.kept kz) hc hn).mono ?_
      rintro e u1 ⟨rfl, k1⟩
      rw [d1]
      have L0 := L0.kept k1
      have L1 := L1.kept k1
      have L2 := L2.kept k1
      have kz := kz.trans k1
      clear k1
      clear p0 p1 p2 q0 q1 q2 pl ql rl r0c rf0 r1c rf1 r2c rf2 r3c rf3 r4c rf4
      have p0 := L0.cell 0 rfl
      have q0 := L1.cell 0 rfl
      have p1 := L0.cell 1 rfl
      have q1 := L1.cell 1 rfl
      have p2 := L0.cell 2 rfl
      have q2 := L1.cell 2 rfl
      have pl := L0.lt
      have ql := L1.lt
      have rl := L2.lt
      have r0c := L2.cell 0 rfl
      have rf0 := L2.frozen 0
      have r1c := L2.cell 1 rfl
      have rf1 := L2.frozen 1
      have r2c := L2.cell 2 rfl
      have rf2 := L2.frozen 2
      have r3c := L2.cell 3 rfl
      have rf3 := L2.frozen 3
      have r4c := L2.cell 4 rfl
      have rf4 := L2.frozen 4
      dsimp only
      repeat (first | go_values | go_skip | go_guarded | go_step | go_upon)
      go_at_call 26
      refine (iholds _ _ r f _ (hr.kept kz) (hf.kept kz) hc hn).mono ?_
      rintro e u2 ⟨rfl, k2⟩
      rw [d2]
      have L0 := L0.kept k2
      have L1 := L1.kept k2
      have L2 := L2.kept k2
      have kz := kz.trans k2
      clear k2
      clear p0 p1 p2 q0 q1 q2 pl ql rl r0c rf0 r1c rf1 r2c rf2 r3c rf3 r4c rf4
      have p0 := L0.cell 0 rfl
      have q0 := L1.cell 0 rfl
      have p1 := L0.cell 1 rfl
      have q1 := L1.cell 1 rfl
      have p2 := L0.cell 2 rfl
      have q2 := L1.cell 2 rfl
      have pl := L0.lt
      have ql := L1.lt
      have rl := L2.lt
      have r0c := L2.cell 0 rfl
      have rf0 := L2.frozen 0
      have r1c := L2.cell 1 rfl
      have rf1 := L2.frozen 1
      have r2c := L2.cell 2 rfl
      have rf2 := L2.frozen 2
      have r3c := L2.cell 3 rfl
      have rf3 := L2.frozen 3
      have r4c := L2.cell 4 rfl
      have rf4 := L2.frozen 4
      dsimp only
      repeat (first | go_values | go_skip | go_guarded | go_step | go_upon)
      refine bodyPost_ret (v := .tuple #[.agg #[.bool false, .int .i64 0, .int .i64 0, .slice none 0 0, .int .i64 0], .bool true]) (by simp [results, Try.results12, go_sem, *]) rfl ?_
      exact ⟨_, rfl, no_filled _ _ _ _, ((((kz.setNew (by first | (simp; done) | (simp; omega)) _).setNew (by first | (simp; done) | (simp; omega)) _).setNew (by first | (simp; done) | (simp; omega)) _).setNew (by first | (simp; done) | (simp; omega)) _).setNew (by first | (simp; done) | (simp; omega)) _⟩
    | true =>
      rw [fillA_yes hg (of_dec d2')]
      have d2 : dec (GoodP r f ∧ HoldsP r f) = true := by rw [dec_and, d2', d1]; rfl
      clear hg
      go_enter Try.func12, Try.ntmps12
      go_upto_region 1 with fail
      obtain ⟨W, hW⟩ : ∃ x, x = ((w.alloc (.cells #[.int .i64 r.1, .slice a1 r.2.1.length c1, .slice a2 r.2.2.length c2] 25)).alloc (.cells #[.int .i64 f.1, .int .i64 f.2.1, .slice ao f.2.2.length cap] 28)).alloc (.cells #[.bool false, .int .i64 0, .int .i64 0, .slice none 0 0, .int .i64 0] 32) := ⟨_, rfl⟩
      have kz : Kept w W := by rw [hW]; exact (((But.refl _ _ _).alloc _).alloc _).alloc _
      have L0 : Loc W w.heap.size [.int .i64 r.1, .slice a1 r.2.1.length c1, .slice a2 r.2.2.length c2] := by rw [hW]; exact ((Loc.new w [.int .i64 r.1, .slice a1 r.2.1.length c1, .slice a2 r.2.2.length c2] 25).alloc (.cells #[.int .i64 f.1, .int .i64 f.2.1, .slice ao f.2.2.length cap] 28)).alloc _
      have L1 : Loc W (w.heap.size + 1) [.int .i64 f.1, .int .i64 f.2.1, .slice ao f.2.2.length cap] := by rw [hW]; have := (Loc.new (w.alloc (.cells #[.int .i64 r.1, .slice a1 r.2.1.length c1, .slice a2 r.2.2.length c2] 25)) [.int .i64 f.1, .int .i64 f.2.1, .slice ao f.2.2.length cap] 28).alloc (.cells #[.bool false, .int .i64 0, .int .i64 0, .slice none 0 0, .int .i64 0] 32); simpa using this
      have L2 : Loc W (w.heap.size + 2) [.bool false, .int .i64 0, .int .i64 0, .slice none 0 0, .int .i64 0] := by rw [hW]; have := Loc.new ((w.alloc (.cells #[.int .i64 r.1, .slice a1 r.2.1.length c1, .slice a2 r.2.2.length c2] 25)).alloc (.cells #[.int .i64 f.1, .int .i64 f.2.1, .slice ao f.2.2.length cap] 28)) [.bool false, .int .i64 0, .int .i64 0, .slice none 0 0, .int .i64 0] 32; simpa using this
      rw [← hW]
      clear hW
      have p0 := L0.cell 0 rfl
      have q0 := L1.cell 0 rfl
      have p1 := L0.cell 1 rfl
      have q1 := L1.cell 1 rfl
      have p2 := L0.cell 2 rfl
      have q2 := L1.cell 2 rfl
      have pl := L0.lt
      have ql := L1.lt
      have rl := L2.lt
      have r0c := L2.cell 0 rfl
      have rf0 := L2.frozen 0
      have r1c := L2.cell 1 rfl
      have rf1 := L2.frozen 1
      have r2c := L2.cell 2 rfl
      have rf2 := L2.frozen 2
      have r3c := L2.cell 3 rfl
      have rf3 := L2.frozen 3
      have r4c := L2.cell 4 rfl
      have rf4 := L2.frozen 4
      repeat (first | go_values | go_skip | go_guarded | go_step | go_upon)
      go_at_call 24
      refine (igoodF _ _ r f _ (hr.kept kz) (hf.kept kz) hc hn).mono ?_
      rintro e u1 ⟨rfl, k1⟩
      rw [d1]
      have L0 := L0.kept k1
      have L1 := L1.kept k1
      have L2 := L2.kept k1
      have kz := kz.trans k1
      clear k1
      clear p0 p1 p2 q0 q1 q2 pl ql rl r0c rf0 r1c rf1 r2c rf2 r3c rf3 r4c rf4
      have p0 := L0.cell 0 rfl
      have q0 := L1.cell 0 rfl
      have p1 := L0.cell 1 rfl
      have q1 := L1.cell 1 rfl
      have p2 := L0.cell 2 rfl
      have q2 := L1.cell 2 rfl
      have pl := L0.lt
      have ql := L1.lt
      have rl := L2.lt
      have r0c := L2.cell 0 rfl
      have rf0 := L2.frozen 0
      have r1c := L2.cell 1 rfl
      have rf1 := L2.frozen 1
      have r2c := L2.cell 2 rfl
      have rf2 := L2.frozen 2
      have r3c := L2.cell 3 rfl
      have rf3 := L2.frozen 3
      have r4c := L2.cell 4 rfl
      have rf4 := L2.frozen 4
      dsimp only
      repeat (first | go_values | go_skip | go_guarded | go_step | go_upon)
      go_at_call 26
      refine (iholds _ _ r f _ (hr.kept kz) (hf.kept kz) hc hn).mono ?_
      rintro e u2 ⟨rfl, k2⟩
      rw [d2]
      have L0 := L0.kept k2
      have L1 := L1.kept k2
      have L2 := L2.kept k2
      have kz := kz.trans k2
      clear k2
      clear p0 p1 p2 q0 q1 q2 pl ql rl r0c rf0 r1c rf1 r2c rf2 r3c rf3 r4c rf4
      have p0 := L0.cell 0 rfl
      have q0 := L1.cell 0 rfl
      have p1 := L0.cell 1 rfl
      have q1 := L1.cell 1 rfl
      have p2 := L0.cell 2 rfl
      have q2 := L1.cell 2 rfl
      have pl := L0.lt
      have ql := L1.lt
      have rl := L2.lt
      have r0c := L2.cell 0 rfl
      have rf0 := L2.frozen 0
      have r1c := L2.cell 1 rfl
      have rf1 := L2.frozen 1
      have r2c := L2.cell 2 rfl
      have rf2 := L2.frozen 2
      have r3c := L2.cell 3 rfl
      have rf3 := L2.frozen 3
      have r4c := L2.cell 4 rfl
      have rf4 := L2.frozen 4
      dsimp only
      go_upto_region 5 with fail
      have hru := hr.kept kz
      have hfu := hf.kept kz
      go_cut [6] from 19 to 22 (fun v6 wx => ∃ g6 g cap5, v6 = .pointer (some ⟨g6, 0, none⟩) ∧ LocR6 wx g6 (.int .i64 r.1) (.slice a1 r.2.1.length c1) (.slice a2 r.2.2.length c2) (.int .i64 f.1) (.int .i64 f.2.1) (.slice (some ⟨g, 0, none⟩) f.2.2.length cap5) ∧ g6 ≠ g ∧ u2.heap.size ≤ g ∧ NumO wx g (g + 1) (.slice (some ⟨g, 0, none⟩) f.2.2.length cap5) f.2.2 ∧ Kept u2 wx)
      case first =>
        clear rl r0c rf0 r1c rf1 r2c rf2 r3c rf3 r4c rf4
        go_region_held3 (fun w' => w'.cell? ⟨w.heap.size, 0, none⟩ = some (.int .i64 r.1) ∧ w'.cell? ⟨w.heap.size, 1, none⟩ = some (.slice a1 r.2.1.length c1) ∧ w'.cell? ⟨w.heap.size, 2, none⟩ = some (.slice a2 r.2.2.length c2) ∧ w'.cell? ⟨w.heap.size + 1, 0, none⟩ = some (.int .i64 f.1) ∧ w'.cell? ⟨w.heap.size + 1, 1, none⟩ = some (.int .i64 f.2.1) ∧ w'.cell? ⟨w.heap.size + 1, 2, none⟩ = some (.slice ao f.2.2.length cap)) (simp [go_sem, *])
          (first | (go_at_call 45; refine (icopy _ f _ (hfu.kept (by (repeat (first | with_reducible exact But.refl _ _ _ | with_reducible apply But.drewN | with_reducible apply But.drew | with_reducible apply But.alloc | (with_reducible refine But.setNew ?_ (by simp; try omega) _))))) hn).mono ?_; rintro e y2 ⟨v2, rfl, o2, k2⟩; obtain ⟨sv, es, o2⟩ := o2; obtain ⟨g, cap5, ef⟩ := own_some o2 hpos; subst ef; subst es; have hcy2 := k2.cell_eq; have hfy2 := k2.frozen_eq; have hzy2 := k2.size; (try simp at hzy2); have kwy2 : Kept u2 y2 := (But.trans (by (repeat (first | with_reducible exact But.refl _ _ _ | with_reducible apply But.drewN | with_reducible apply But.drew | with_reducible apply But.alloc | (with_reducible refine But.setNew ?_ (by simp; try omega) _)))) k2); have nly2 : u2.heap.size ≤ y2.heap.size := kwy2.size; have n0y2 : w.heap.size < y2.heap.size := (by omega); have n1y2 : w.heap.size + 1 < y2.heap.size := (by omega); have p0y2 := Kept.cell kwy2 p0; have p1y2 := Kept.cell kwy2 p1; have p2y2 := Kept.cell kwy2 p2; have q0y2 := Kept.cell kwy2 q0; have q1y2 := Kept.cell kwy2 q1; have q2y2 := Kept.cell kwy2 q2; (try have m1y2 : u2.heap.size < y2.heap.size := (by omega)); have hgl := own_lt o2.1 (g := g) rfl; (try simp at hgl); have hgs : u2.heap.size ≤ g := (by have h := hgl.1; (try simp at h); omega); have o2 : NumO y2 g (g + 1) (.slice (some ⟨g, 0, none⟩) f.2.2.length cap5) f.2.2 := own_at o2)
                 | (go_at_call 44; refine (itil _ _ r f _ (hru.kept (by (repeat (first | with_reducible exact kwy2 | with_reducible apply But.drewN | with_reducible apply But.drew | with_reducible apply But.alloc | (with_reducible refine But.setNew ?_ (by simp; try omega) _))))) ⟨_, rfl, o2.at.kept (by (repeat (first | with_reducible exact But.refl _ _ _ | with_reducible apply But.drewN | with_reducible apply But.drew | with_reducible apply But.alloc | (with_reducible refine But.setNew ?_ (by simp; try omega) _))))⟩).mono ?_; rintro e y3 ⟨a1', c1', a2', c2', ao', cap', e1, e2, rfl, k3⟩; cases e1; cases e2; have o3 := NumO.kept o2 (But.trans (by (repeat (first | with_reducible exact But.refl _ _ _ | with_reducible apply But.drewN | with_reducible apply But.drew | with_reducible apply But.alloc | (with_reducible refine But.setNew ?_ (by simp; try omega) _)))) k3); have hcy3 := k3.cell_eq; have hfy3 := k3.frozen_eq; have hzy3 := k3.size; (try simp at hzy3); have kwy3 : Kept u2 y3 := (But.trans (by (repeat (first | with_reducible exact kwy2 | with_reducible apply But.drewN | with_reducible apply But.drew | with_reducible apply But.alloc | (with_reducible refine But.setNew ?_ (by simp; try omega) _)))) k3); have nly3 : u2.heap.size ≤ y3.heap.size := kwy3.size; have n0y3 : w.heap.size < y3.heap.size := (by omega); have n1y3 : w.heap.size + 1 < y3.heap.size := (by omega); have p0y3 := Kept.cell kwy3 p0; have p1y3 := Kept.cell kwy3 p1; have p2y3 := Kept.cell kwy3 p2; have q0y3 := Kept.cell kwy3 q0; have q1y3 := Kept.cell kwy3 q1; have q2y3 := Kept.cell kwy3 q2; (try have m1y3 : u2.heap.size < y3.heap.size := (by omega)); (try have m2y3 : y2.heap.size < y3.heap.size := (by omega)); (try have ys00 : (y3.cell? ⟨u2.heap.size, 0, none⟩).isSome = true := (by first | (simp [go_sem, *]; done) | fail)); (try have yf00 : y3.frozen? ⟨u2.heap.size, 0, none⟩ = false := (by first | (simp [go_sem, *]; done) | fail)); (try have ys01 : (y3.cell? ⟨u2.heap.size, 1, none⟩).isSome = true := (by first | (simp [go_sem, *]; done) | fail)); (try have yf01 : y3.frozen? ⟨u2.heap.size, 1, none⟩ = false := (by first | (simp [go_sem, *]; done) | fail)); (try have ys02 : (y3.cell? ⟨u2.heap.size, 2, none⟩).isSome = true := (by first | (simp [go_sem, *]; done) | fail)); (try have yf02 : y3.frozen? ⟨u2.heap.size, 2, none⟩ = false := (by first | (simp [go_sem, *]; done) | fail)); (try have ys03 : (y3.cell? ⟨u2.heap.size, 3, none⟩).isSome = true := (by first | (simp [go_sem, *]; done) | fail)); (try have yf03 : y3.frozen? ⟨u2.heap.size, 3, none⟩ = false := (by first | (simp [go_sem, *]; done) | fail)); (try have ys04 : (y3.cell? ⟨u2.heap.size, 4, none⟩).isSome = true := (by first | (simp [go_sem, *]; done) | fail)); (try have yf04 : y3.frozen? ⟨u2.heap.size, 4, none⟩ = false := (by first | (simp [go_sem, *]; done) | fail)); (try have ys05 : (y3.cell? ⟨u2.heap.size, 5, none⟩).isSome = true := (by first | (simp [go_sem, *]; done) | fail)); (try have yf05 : y3.frozen? ⟨u2.heap.size, 5, none⟩ = false := (by first | (simp [go_sem, *]; done) | fail)); (try have ys10 : (y3.cell? ⟨y2.heap.size, 0, none⟩).isSome = true := (by first | (simp [go_sem, *]; done) | fail)); (try have yf10 : y3.frozen? ⟨y2.heap.size, 0, none⟩ = false := (by first | (simp [go_sem, *]; done) | fail)); (try have ys11 : (y3.cell? ⟨y2.heap.size, 1, none⟩).isSome = true := (by first | (simp [go_sem, *]; done) | fail)); (try have yf11 : y3.frozen? ⟨y2.heap.size, 1, none⟩ = false := (by first | (simp [go_sem, *]; done) | fail)); (try have ys12 : (y3.cell? ⟨y2.heap.size, 2, none⟩).isSome = true := (by first | (simp [go_sem, *]; done) | fail)); (try have yf12 : y3.frozen? ⟨y2.heap.size, 2, none⟩ = false := (by first | (simp [go_sem, *]; done) | fail)); (try have ys13 : (y3.cell? ⟨y2.heap.size, 3, none⟩).isSome = true := (by first | (simp [go_sem, *]; done) | fail)); (try have yf13 : y3.frozen? ⟨y2.heap.size, 3, none⟩ = false := (by first | (simp [go_sem, *]; done) | fail)); (try have ys14 : (y3.cell? ⟨y2.heap.size, 4, none⟩).isSome = true := (by first | (simp [go_sem, *]; done) | fail)); (try have yf14 : y3.frozen? ⟨y2.heap.size, 4, none⟩ = false := (by first | (simp [go_sem, *]; done) | fail)); (try have ys15 : (y3.cell? ⟨y2.heap.size, 5, none⟩).isSome = true := (by first | (simp [go_sem, *]; done) | fail)); (try have yf15 : y3.frozen? ⟨y2.heap.size, 5, none⟩ = false := (by first | (simp [go_sem, *]; done) | fail))))
        · repeat (first | go_values | go_skip | go_guarded | go_step | go_upon)
          go_meet
          case rel =>
            refine ⟨_, g, cap5, rfl, ⟨by simp [go_sem, *], by simp [go_sem, *], by simp [go_sem, *], by simp [go_sem, *], by simp [go_sem, *], by simp [go_sem, *]⟩, by omega, hgs, ?_, by (repeat (first | with_reducible exact kwy3 | with_reducible apply But.drewN | with_reducible apply But.drew | with_reducible apply But.alloc | (with_reducible refine But.setNew ?_ (by simp; try omega) _)))⟩
            exact NumO.kept o3 ((But.refl _ _ _).alloc _)
        · repeat (first | go_values | go_skip | go_guarded | go_step | go_upon)
          go_meet
          case rel =>
            refine ⟨_, g, cap5, rfl, ⟨by simp [go_sem, *], by simp [go_sem, *], by simp [go_sem, *], by simp [go_sem, *], by simp [go_sem, *], by simp [go_sem, *]⟩, by omega, hgs, ?_, by (repeat (first | with_reducible exact kwy3 | with_reducible apply But.drewN | with_reducible apply But.drew | with_reducible apply But.alloc | (with_reducible refine But.setNew ?_ (by simp; try omega) _)))⟩
            exact NumO.but (lo' := y2.heap.size) (hi' := y2.heap.size + 1) o3 (((((((But.refl _ _ _).setCell (by simp) (by simp) _).setCell (by simp) (by simp) _).setCell (by simp) (by simp) _).setCell (by simp) (by simp) _).setCell (by simp) (by simp) _).setCell (by simp) (by simp) _) (by omega)
        · repeat (first | go_values | go_skip | go_guarded | go_step | go_upon)
          go_meet
          case rel =>
            refine ⟨_, g, cap5, rfl, ⟨by simp [go_sem, *], by simp [go_sem, *], by simp [go_sem, *], by simp [go_sem, *], by simp [go_sem, *], by simp [go_sem, *]⟩, by omega, hgs, ?_, by (repeat (first | with_reducible exact kwy3 | with_reducible apply But.drewN | with_reducible apply But.drew | with_reducible apply But.alloc | (with_reducible refine But.setNew ?_ (by simp; try omega) _)))⟩
            exact NumO.but (lo' := u2.heap.size) (hi' := u2.heap.size + 1) o3 (((((((But.refl _ _ _).setCell (by simp) (by simp) _).setCell (by simp) (by simp) _).setCell (by simp) (by simp) _).setCell (by simp) (by simp) _).setCell (by simp) (by simp) _).setCell (by simp) (by simp) _) (by omega)
      case rest =>
        obtain ⟨g6, g, cap5, rfl, lt, hne, hgs, og, kx⟩ := hcut
        have hw2 : w.heap.size + 2 < u2.heap.size := rl
        clear rl r0c rf0 r1c rf1 r2c rf2 r3c rf3 r4c rf4 p0 p1 p2 q0 q1 q2
        have K6 := kx
        have L1 := L1.kept kx
        have L2 := L2.kept kx
        have kz := kz.trans kx
        have hfc := hfu.kept kx
        have hgc := (own_lt og.1 (g := g) rfl).2
        have hus := kx.size
        have hsx : g6 < g ∨ g + 1 ≤ g6 := by omega
        have hsq : w.heap.size + 1 < g ∨ g + 1 ≤ w.heap.size + 1 := by omega
        obtain ⟨x0, x1, x2, x3, x4, x5⟩ := lt
        have q0 := L1.cell 0 rfl
        have q1 := L1.cell 1 rfl
        have q2 := L1.cell 2 rfl
        obtain ⟨X, hX⟩ : ∃ x, fillR r f.1 f.2.1 (openL f.2.2) f.2.2 0 0 = x := ⟨_, rfl⟩
        have HX : Hid (fillR r f.1 f.2.1 (openL f.2.2) f.2.2 0 0 = X) := hX
        clear hX
        obtain ⟨fd, xl, xt⟩ := X
        repeat (first | go_values | go_skip | go_guarded | go_step | go_upon)
        go_region_held3 (fun w' => w'.cell? ⟨g6, 0, none⟩ = some (.int .i64 r.1) ∧ w'.cell? ⟨g6, 1, none⟩ = some (.slice a1 r.2.1.length c1) ∧ w'.cell? ⟨g6, 2, none⟩ = some (.slice a2 r.2.2.length c2) ∧ w'.cell? ⟨g6, 3, none⟩ = some (.int .i64 f.1) ∧ w'.cell? ⟨g6, 4, none⟩ = some (.int .i64 f.2.1) ∧ w'.cell? ⟨g6, 5, none⟩ = some (.slice (some ⟨g, 0, none⟩) f.2.2.length cap5) ∧ w'.cell? ⟨w.heap.size + 1, 0, none⟩ = some (.int .i64 f.1) ∧ w'.cell? ⟨w.heap.size + 1, 1, none⟩ = some (.int .i64 f.2.1) ∧ w'.cell? ⟨w.heap.size + 1, 2, none⟩ = some (.slice ao f.2.2.length cap)) (simp [go_sem, *])
          (first | (go_at_call 47; refine (iopen _ f r.1 _ (hfc.kept (by (repeat (first | with_reducible exact But.refl _ _ _ | with_reducible apply But.drewN | with_reducible apply But.drew | with_reducible apply But.alloc | (with_reducible refine But.setNew ?_ (by simp; try omega) _))))) HG.out.2 hlen).mono ?_; rintro e y2 ⟨v2, rfl, o2, k2⟩; obtain ⟨pa, pc, ef⟩ := o2.form; subst ef; have kwy2 : Kept wc y2 := (But.trans (by (repeat (first | with_reducible exact But.refl _ _ _ | with_reducible apply But.drewN | with_reducible apply But.drew | with_reducible apply But.alloc | (with_reducible refine But.setNew ?_ (by simp; try omega) _)))) k2); obtain ⟨lo2, hlo2, o2⟩ : ∃ lo, g + 1 ≤ lo ∧ NumO y2 lo y2.heap.size (.slice pa (openL f.2.2).length pc) (openL f.2.2) := ⟨_, (by (try simp); omega), o2⟩; have og2 := og.kept kwy2; have x0y2 := Kept.cell kwy2 x0; have x1y2 := Kept.cell kwy2 x1; have x2y2 := Kept.cell kwy2 x2; have x3y2 := Kept.cell kwy2 x3; have x4y2 := Kept.cell kwy2 x4; have x5y2 := Kept.cell kwy2 x5; have q0y2 := Kept.cell kwy2 q0; have q1y2 := Kept.cell kwy2 q1; have q2y2 := Kept.cell kwy2 q2)
                 | (go_at_call 46; refine (ifill r f.1 f.2.1 (openL f.2.2) f.2.2 a1 a2 pa c1 c2 pc g cap5 f.2.2.length g (g + 1) lo2 y2.heap.size u2 _ hru.parts.1 hru.parts.2 (K6.trans (by (repeat (first | with_reducible exact kwy2 | with_reducible apply But.drewN | with_reducible apply But.drew | with_reducible apply But.alloc | (with_reducible refine But.setNew ?_ (by simp; try omega) _))))) hgs rfl (og2.kept (by (repeat (first | with_reducible exact But.refl _ _ _ | with_reducible apply But.drewN | with_reducible apply But.drew | with_reducible apply But.alloc | (with_reducible refine But.setNew ?_ (by simp; try omega) _))))) (o2.kept (by (repeat (first | with_reducible exact But.refl _ _ _ | with_reducible apply But.drewN | with_reducible apply But.drew | with_reducible apply But.alloc | (with_reducible refine But.setNew ?_ (by simp; try omega) _))))) (by omega) HG.out (fun k hk => open_at hk) (by have := cutL_len (openB f.2.2) f.2.2.length; unfold openL; omega)).mono ?_; rintro e y3 ⟨l', rfl, hl', hll, o3, b3⟩; rw [HX.out] at hl' ⊢; have B3 : But g (g + 1) wc y3 := But.trans (But.of (by (repeat (first | with_reducible exact kwy2 | with_reducible apply But.drewN | with_reducible apply But.drew | with_reducible apply But.alloc | (with_reducible refine But.setNew ?_ (by simp; try omega) _))))) b3; have x0y3 := But.cell B3 x0 hsx; have x1y3 := But.cell B3 x1 hsx; have x2y3 := But.cell B3 x2 hsx; have x3y3 := But.cell B3 x3 hsx; have x4y3 := But.cell B3 x4 hsx; have x5y3 := But.cell B3 x5 hsx; have q0y3 := But.cell B3 q0 hsq; have q1y3 := But.cell B3 q1 hsq; have q2y3 := But.cell B3 q2 hsq; dsimp only at hl' ⊢))
        all_goals
          clear x0 x1 x2 x3 x4 x5 q0 q1 q2 x0y2 x1y2 x2y2 x3y2 x4y2 x5y2 q0y2 q1y2 q2y2
          have L2 := L2.but B3 (by omega)
          have KY : Kept w y3 := kz.onto B3 (by omega)
          have hB3 := B3.size
          have rl := L2.lt
          have r0c := L2.cell 0 rfl
          have r1c := L2.cell 1 rfl
          have r2c := L2.cell 2 rfl
          have r3c := L2.cell 3 rfl
          have r4c := L2.cell 4 rfl
          have rf0 := L2.frozen 0
          have rf1 := L2.frozen 1
          have rf2 := L2.frozen 2
          have rf3 := L2.frozen 3
          have rf4 := L2.frozen 4
          cases fd with
          | false =>
            repeat (first | go_values | go_skip | go_guarded | go_step | go_upon)
            refine bodyPost_ret (v := .tuple #[.agg #[.bool false, .int .i64 0, .int .i64 0, .slice none 0 0, .int .i64 (xt : Int)], .bool true]) (by simp [results, Try.results12, go_sem, *]) rfl ?_
            rw [fillF_no HX.out rfl]
            exact ⟨_, rfl, no_filled _ _ _ _, ((((KY.setNew (by first | (simp; done) | (simp; omega)) _).setNew (by first | (simp; done) | (simp; omega)) _).setNew (by first | (simp; done) | (simp; omega)) _).setNew (by first | (simp; done) | (simp; omega)) _).setNew (by first | (simp; done) | (simp; omega)) _⟩
          | true =>
            have hl := hl' rfl
            subst hl
            repeat (first | go_values | go_skip | go_guarded | go_step | go_upon)
            refine bodyPost_ret (v := .tuple #[.agg #[.bool true, .int .i64 f.1, .int .i64 f.2.1, .slice (some ⟨g, 0, none⟩) f.2.2.length cap5, .int .i64 (xt : Int)], .bool true]) (by simp [results, Try.results12, go_sem, *]) rfl ?_
            rw [fillF_yes HX.out rfl]
            refine ⟨_, rfl, ⟨_, rfl, ?_⟩, ((((KY.setNew (by first | (simp; done) | (simp; omega)) _).setNew (by first | (simp; done) | (simp; omega)) _).setNew (by first | (simp; done) | (simp; omega)) _).setNew (by first | (simp; done) | (simp; omega)) _).setNew (by first | (simp; done) | (simp; omega)) _⟩
            refine NumO.low (lo := w.heap.size) (hi := y3.heap.size) (NumO.mono (NumO.but (lo' := w.heap.size + 2) (hi' := w.heap.size + 3) o3 ((((((But.refl _ _ _).setCell (by simp) (by simp) _).setCell (by simp) (by simp) _).setCell (by simp) (by simp) _).setCell (by simp) (by simp) _).setCell (by simp) (by simp) _) (by omega)) (by omega) (by omega))

end Go.Proofs.Ytopakblckajdmaa
