/-
  FillField of the specification.
-/
import Derived.Test.YtopakblckajdmaaFillF14
import Derived.Test.YtopakblckajdmaaSHolds14
namespace Go.Proofs.Ytopakblckajdmaa
open Go.ChangeShapes Go.WideShapes Go.ChangeAt Go.RowKit
set_option maxRecDepth 100000
set_option linter.unusedVariables false

theorem field_own {w : World} {lo hi g cap N : Nat} {A B : Int} {l : List Int} (h : NumO w lo hi (.slice (some ⟨g, 0, none⟩) N cap) l) (hN : l.length = N) : FieldAt w (.agg #[.int .i64 A, .int .i64 B, .slice (some ⟨g, 0, none⟩) N cap]) (A, B, l) := by
  subst hN
  exact ⟨_, rfl, h.at⟩

set_option maxHeartbeats 8000000 in
theorem sfillF (rv fv : Value) (r : RulesD) (f : FieldD) (w : World) (hr : RulesAt w rv r) (hf : FieldAt w fv f) (hc : rulesCost r ≤ 1048576) (hn : f.2.2.length ≤ 1048576) :
    Calls Try.prog 13 #[rv, fv] w fun e w' => ∃ v', e = .returned (.tuple #[v', .bool (fillA r f).2]) ∧ FilledO w' w.heap.size w'.heap.size v' (fillA r f).1 ∧ Kept w w' := by
  obtain ⟨a1, c1, a2, c2, hfm⟩ := hr.form
  subst hfm
  obtain ⟨ao, cap, hfm⟩ := hf.form
  subst hfm
  cases d1 : dec (GoodP r f) with
  | false =>
    rw [fillA_bad (of_dec_no d1)]
    go_enter Try.func13, Try.ntmps13
    go_upto_region 1 with fail
    obtain ⟨W, hW⟩ : ∃ x, x = ((w.alloc (.cells #[.int .i64 r.1, .slice a1 r.2.1.length c1, .slice a2 r.2.2.length c2] 25)).alloc (.cells #[.int .i64 f.1, .int .i64 f.2.1, .slice ao f.2.2.length cap] 28)).alloc (.cells #[.bool false, .int .i64 0, .int .i64 0, .slice none 0 0, .int .i64 0] 32) := ⟨_, rfl⟩
    have kz : Kept w W := by rw [hW]; exact (((But.refl _ _ _).alloc _).alloc _).alloc _
    have L0 : Loc W w.heap.size [.int .i64 r.1, .slice a1 r.2.1.length c1, .slice a2 r.2.2.length c2] := by rw [hW]; exact ((Loc.new w [.int .i64 r.1, .slice a1 r.2.1.length c1, .slice a2 r.2.2.length c2] 25).alloc (.cells #[.int .i64 f.1, .int .i64 f.2.1, .slice ao f.2.2.length cap] 28)).alloc _
    have L1 : Loc W (w.heap.size + 1) [.int .i64 f.1, .int .i64 f.2.1, .slice ao f.2.2.length cap] := by rw [hW]; have := (Loc.new (w.alloc (.cells #[.int .i64 r.1, .slice a1 r.2.1.length c1, .slice a2 r.2.2.length c2] 25)) [.int .i64 f.1, .int .i64 f.2.1, .slice ao f.2.2.length cap] 28).alloc (.cells #[.bool false, .int .i64 0, .int .i64 0, .slice none 0 0, .int .i64 0] 32); simpa using this
    have L2 : Loc W (w.heap.size + 2) [.bool false, .int .i64 0, .int .i64 0, .slice none 0 0, .int .i64 0] := by rw [hW]; have := Loc.new ((w.alloc (.cells #[.int .i64 r.1, .slice a1 r.2.1.length c1, .slice a2 r.2.2.length c2] 25)).alloc (.cells #[.int .i64 f.1, .int .i64 f.2.1, .slice ao f.2.2.length cap] 28)) [.bool false, .int .i64 0, .int .i64 0, .slice none 0 0, .int .i64 0] 32; simpa using this
    rw [← hW]
    clear hW
    have p0 := L0.cell 0 rfl
    have q0 := L1.cell 0 rfl
    have p1 := L0.cell 1 rfl
    have q1 := L1.cell 1 rfl
    have p2 := L0.cell 2 rfl
    have q2 := L1.cell 2 rfl
    have pl := L0.lt
    have ql := L1.lt
    have rl := L2.lt
    have r0c := L2.cell 0 rfl
    have rf0 := L2.frozen 0
    have r1c := L2.cell 1 rfl
    have rf1 := L2.frozen 1
    have r2c := L2.cell 2 rfl
    have rf2 := L2.frozen 2
    have r3c := L2.cell 3 rfl
    have rf3 := L2.frozen 3
    have r4c := L2.cell 4 rfl
    have rf4 := L2.frozen 4
    repeat (first | go_values | go_skip | go_guarded | go_step | go_upon)
    go_at_call 22
    refine (sgoodF _ _ r f _ (hr.kept kz) (hf.kept kz) hc hn).mono ?_
    rintro e u1 ⟨rfl, k1⟩
    rw [d1]
    have L0 := L0.kept k1
    have L1 := L1.kept k1
    have L2 := L2.kept k1
    have kz := kz.trans k1
    clear k1
    clear p0 p1 p2 q0 q1 q2 pl ql rl r0c rf0 r1c rf1 r2c rf2 r3c rf3 r4c rf4
    have p0 := L0.cell 0 rfl
    have q0 := L1.cell 0 rfl
    have p1 := L0.cell 1 rfl
    have q1 := L1.cell 1 rfl
    have p2 := L0.cell 2 rfl
    have q2 := L1.cell 2 rfl
    have pl := L0.lt
    have ql := L1.lt
    have rl := L2.lt
    have r0c := L2.cell 0 rfl
    have rf0 := L2.frozen 0
    have r1c := L2.cell 1 rfl
    have rf1 := L2.frozen 1
    have r2c := L2.cell 2 rfl
    have rf2 := L2.frozen 2
    have r3c := L2.cell 3 rfl
    have rf3 := L2.frozen 3
    have r4c := L2.cell 4 rfl
    have rf4 := L2.frozen 4
    dsimp only
    repeat (first | go_values | go_skip | go_guarded | go_step | go_upon)
    refine bodyPost_ret (v := .tuple #[.agg #[.bool false, .int .i64 0, .int .i64 0, .slice none 0 0, .int .i64 0], .bool false]) (by simp [results, Try.results13, go_sem, *]) rfl ?_
    exact ⟨_, rfl, no_filled _ _ _ _, ((((kz.setNew (by first | (simp; done) | (simp; omega)) _).setNew (by first | (simp; done) | (simp; omega)) _).setNew (by first | (simp; done) | (simp; omega)) _).setNew (by first | (simp; done) | (simp; omega)) _).setNew (by first | (simp; done) | (simp; omega)) _⟩
  | true =>
    have hg := of_dec d1
    have hlen := good_len hg
    have hpos : 0 < f.2.2.length := by have := hg.2.2.2.1; have := mul_in hg.2.1.1 hg.2.1.2 hg.2.2.1.1 hg.2.2.1.2; omega
    have HG : Hid (GoodP r f) := hg
    have hs := hg.1.1
    cases d2 : dec (HoldsP r f) with
    | false =>
      rw [fillA_not hg (of_dec_no d2)]
      clear hg
      go_enter Try.func13, Try.ntmps13
      go_upto_region 1 with fail
      obtain ⟨W, hW⟩ : ∃ x, x = ((w.alloc (.cells #[.int .i64 r.1, .slice a1 r.2.1.length c1, .slice a2 r.2.2.length c2] 25)).alloc (.cells #[.int .i64 f.1, .int .i64 f.2.1, .slice ao f.2.2.length cap] 28)).alloc (.cells #[.bool false, .int .i64 0, .int .i64 0, .slice none 0 0, .int .i64 0] 32) := ⟨_, rfl⟩
      have kz : Kept w W := by rw [hW]; exact (((But.refl _ _ _).alloc _).alloc _).alloc _
      have L0 : Loc W w.heap.size [.int .i64 r.1, .slice a1 r.2.1.length c1, .slice a2 r.2.2.length c2] := by rw [hW]; exact ((Loc.new w [.int .i64 r.1, .slice a1 r.2.1.length c1, .slice a2 r.2.2.length c2] 25).alloc (.cells #[.int .i64 f.1, .int .i64 f.2.1, .slice ao f.2.2.length cap] 28)).alloc _
      have L1 : Loc W (w.heap.size + 1) [.int .i64 f.1, .int .i64 f.2.1, .slice ao f.2.2.length cap] := by rw [hW]; have := (Loc.new (w.alloc (.cells #[.int .i64 r.1, .slice a1 r.2.1.length c1, .slice a2 r.2.2.length c2] 25)) [.int .i64 f.1, .int .i64 f.2.1, .slice ao f.2.2.length cap] 28).alloc (.cells #[.bool false, .int .i64 0, .int .i64 0, .slice none 0 0, .int .i64 0] 32); simpa using this
      have L2 : Loc W (w.heap.size + 2) [.bool false, .int .i64 0, .int .i64 0, .slice none 0 0, .int .i64 0] := by rw [hW]; have := Loc.new ((w.alloc (.cells #[.int .i64 r.1, .slice a1 r.2.1.length c1, .slice a2 r.2.2.length c2] 25)).alloc (.cells #[.int .i64 f.1, .int .i64 f.2.1, .slice ao f.2.2.length cap] 28)) [.bool false, .int .i64 0, .int .i64 0, .slice none 0 0, .int .i64 0] 32; simpa using this
      rw [← hW]
      clear hW
      have p0 := L0.cell 0 rfl
      have q0 := L1.cell 0 rfl
      have p1 := L0.cell 1 rfl
      have q1 := L1.cell 1 rfl
      have p2 := L0.cell 2 rfl
      have q2 := L1.cell 2 rfl
      have pl := L0.lt
      have ql := L1.lt
      have rl := L2.lt
      have r0c := L2.cell 0 rfl
      have rf0 := L2.frozen 0
      have r1c := L2.cell 1 rfl
      have rf1 := L2.frozen 1
      have r2c := L2.cell 2 rfl
      have rf2 := L2.frozen 2
      have r3c := L2.cell 3 rfl
      have rf3 := L2.frozen 3
      have r4c := L2.cell 4 rfl
      have rf4 := L2.frozen 4
      repeat (first | go_values | go_skip | go_guarded | go_step | go_upon)
      go_at_call 22
      refine (sgoodF _ _ r f _ (hr.kept kz) (hf.kept kz) hc hn).mono ?_
      rintro e u1 ⟨rfl, k1⟩
      rw [d1]
      have L0 := L0.kept k1
      have L1 := L1.kept k1
      have L2 := L2.kept k1
      have kz := kz.trans k1
      clear k1
      clear p0 p1 p2 q0 q1 q2 pl ql rl r0c rf0 r1c rf1 r2c rf2 r3c rf3 r4c rf4
      have p0 := L0.cell 0 rfl
      have q0 := L1.cell 0 rfl
      have p1 := L0.cell 1 rfl
      have q1 := L1.cell 1 rfl
      have p2 := L0.cell 2 rfl
      have q2 := L1.cell 2 rfl
      have pl := L0.lt
      have ql := L1.lt
      have rl := L2.lt
      have r0c := L2.cell 0 rfl
      have rf0 := L2.frozen 0
      have r1c := L2.cell 1 rfl
      have rf1 := L2.frozen 1
      have r2c := L2.cell 2 rfl
      have rf2 := L2.frozen 2
      have r3c := L2.cell 3 rfl
      have rf3 := L2.frozen 3
      have r4c := L2.cell 4 rfl
      have rf4 := L2.frozen 4
      dsimp only
      repeat (first | go_values | go_skip | go_guarded | go_step | go_upon)
      go_at_call 48
      refine (slholds _ _ r f _ (hr.kept kz) (hf.kept kz) HG.out).mono ?_
      rintro e u2 ⟨rfl, k2⟩
      rw [d2]
      have L0 := L0.kept k2
      have L1 := L1.kept k2
      have L2 := L2.kept k2
      have kz := kz.trans k2
      clear k2
      clear p0 p1 p2 q0 q1 q2 pl ql rl r0c rf0 r1c rf1 r2c rf2 r3c rf3 r4c rf4
      have p0 := L0.cell 0 rfl
      have q0 := L1.cell 0 rfl
      have p1 := L0.cell 1 rfl
      have q1 := L1.cell 1 rfl
      have p2 := L0.cell 2 rfl
      have q2 := L1.cell 2 rfl
      have pl := L0.lt
      have ql := L1.lt
      have rl := L2.lt
      have r0c := L2.cell 0 rfl
      have rf0 := L2.frozen 0
      have r1c := L2.cell 1 rfl
      have rf1 := L2.frozen 1
      have r2c := L2.cell 2 rfl
      have rf2 := L2.frozen 2
      have r3c := L2.cell 3 rfl
      have rf3 := L2.frozen 3
      have r4c := L2.cell 4 rfl
      have rf4 := L2.frozen 4
      dsimp only
      repeat (first | go_values | go_skip | go_guarded | go_step | go_upon)
      refine bodyPost_ret (v := .tuple #[.agg #[.bool false, .int .i64 0, .int .i64 0, .slice none 0 0, .int .i64 0], .bool true]) (by simp [results, Try.results13, go_sem, *]) rfl ?_
      exact ⟨_, rfl, no_filled _ _ _ _, ((((kz.setNew (by first | (simp; done) | (simp; omega)) _).setNew (by first | (simp; done) | (simp; omega)) _).setNew (by first | (simp; done) | (simp; omega)) _).setNew (by first | (simp; done) | (simp; omega)) _).setNew (by first | (simp; done) | (simp; omega)) _⟩
    | true =>
      rw [fillA_yes hg (of_dec d2)]
      clear hg
      go_enter Try.func13, Try.ntmps13
      go_upto_region 1 with fail
      obtain ⟨W, hW⟩ : ∃ x, x = ((w.alloc (.cells #[.int .i64 r.1, .slice a1 r.2.1.length c1, .slice a2 r.2.2.length c2] 25)).alloc (.cells #[.int .i64 f.1, .int .i64 f.2.1, .slice ao f.2.2.length cap] 28)).alloc (.cells #[.bool false, .int .i64 0, .int .i64 0, .slice none 0 0, .int .i64 0] 32) := ⟨_, rfl⟩
      have kz : Kept w W := by rw [hW]; exact (((But.refl _ _ _).alloc _).alloc _).alloc _
      have L0 : Loc W w.heap.size [.int .i64 r.1, .slice a1 r.2.1.length c1, .slice a2 r.2.2.length c2] := by rw [hW]; exact ((Loc.new w [.int .i64 r.1, .slice a1 r.2.1.length c1, .slice a2 r.2.2.length c2] 25).alloc (.cells #[.int .i64 f.1, .int .i64 f.2.1, .slice ao f.2.2.length cap] 28)).alloc _
      have L1 : Loc W (w.heap.size + 1) [.int .i64 f.1, .int .i64 f.2.1, .slice ao f.2.2.length cap] := by rw [hW]; have := (Loc.new (w.alloc (.cells #[.int .i64 r.1, .slice a1 r.2.1.length c1, .slice a2 r.2.2.length c2] 25)) [.int .i64 f.1, .int .i64 f.2.1, .slice ao f.2.2.length cap] 28).alloc (.cells #[.bool false, .int .i64 0, .int .i64 0, .slice none 0 0, .int .i64 0] 32); simpa using this
      have L2 : Loc W (w.heap.size + 2) [.bool false, .int .i64 0, .int .i64 0, .slice none 0 0, .int .i64 0] := by rw [hW]; have := Loc.new ((w.alloc (.cells #[.int .i64 r.1, .slice a1 r.2.1.length c1, .slice a2 r.2.2.length c2] 25)).alloc (.cells #[.int .i64 f.1, .int .i64 f.2.1, .slice ao f.2.2.length cap] 28)) [.bool false, .int .i64 0, .int .i64 0, .slice none 0 0, .int .i64 0] 32; simpa using this
      rw [← hW]
      clear hW
      have p0 := L0.cell 0 rfl
      have q0 := L1.cell 0 rfl
      have p1 := L0.cell 1 rfl
      have q1 := L1.cell 1 rfl
      have p2 := L0.cell 2 rfl
      have q2 := L1.cell 2 rfl
      have pl := L0.lt
      have ql := L1.lt
      have rl := L2.lt
      have r0c := L2.cell 0 rfl
      have rf0 := L2.frozen 0
      have r1c := L2.cell 1 rfl
      have rf1 := L2.frozen 1
      have r2c := L2.cell 2 rfl
      have rf2 := L2.frozen 2
      have r3c := L2.cell 3 rfl
      have rf3 := L2.frozen 3
      have r4c := L2.cell 4 rfl
      have rf4 := L2.frozen 4
      repeat (first | go_values | go_skip | go_guarded | go_step | go_upon)
      go_at_call 22
      refine (sgoodF _ _ r f _ (hr.kept kz) (hf.kept kz) hc hn).mono ?_
      rintro e u1 ⟨rfl, k1⟩
      rw [d1]
      have L0 := L0.kept k1
      have L1 := L1.kept k1
      have L2 := L2.kept k1
      have kz := kz.trans k1
      clear k1
      clear p0 p1 p2 q0 q1 q2 pl ql rl r0c rf0 r1c rf1 r2c rf2 r3c rf3 r4c rf4
      have p0 := L0.cell 0 rfl
      have q0 := L1.cell 0 rfl
      have p1 := L0.cell 1 rfl
      have q1 := L1.cell 1 rfl
      have p2 := L0.cell 2 rfl
      have q2 := L1.cell 2 rfl
      have pl := L0.lt
      have ql := L1.lt
      have rl := L2.lt
      have r0c := L2.cell 0 rfl
      have rf0 := L2.frozen 0
      have r1c := L2.cell 1 rfl
      have rf1 := L2.frozen 1
      have r2c := L2.cell 2 rfl
      have rf2 := L2.frozen 2
      have r3c := L2.cell 3 rfl
      have rf3 := L2.frozen 3
      have r4c := L2.cell 4 rfl
      have rf4 := L2.frozen 4
      dsimp only
      repeat (first | go_values | go_skip | go_guarded | go_step | go_upon)
      go_at_call 48
      refine (slholds _ _ r f _ (hr.kept kz) (hf.kept kz) HG.out).mono ?_
      rintro e u2 ⟨rfl, k2⟩
      rw [d2]
      have L0 := L0.kept k2
      have L1 := L1.kept k2
      have L2 := L2.kept k2
      have kz := kz.trans k2
      clear k2
      clear p0 p1 p2 q0 q1 q2 pl ql rl r0c rf0 r1c rf1 r2c rf2 r3c rf3 r4c rf4
      have p0 := L0.cell 0 rfl
      have q0 := L1.cell 0 rfl
      have p1 := L0.cell 1 rfl
      have q1 := L1.cell 1 rfl
      have p2 := L0.cell 2 rfl
      have q2 := L1.cell 2 rfl
      have pl := L0.lt
      have ql := L1.lt
      have rl := L2.lt
      have r0c := L2.cell 0 rfl
      have rf0 := L2.frozen 0
      have r1c := L2.cell 1 rfl
      have rf1 := L2.frozen 1
      have r2c := L2.cell 2 rfl
      have rf2 := L2.frozen 2
      have r3c := L2.cell 3 rfl
      have rf3 := L2.frozen 3
      have r4c := L2.cell 4 rfl
      have rf4 := L2.frozen 4
      dsimp only
      obtain ⟨i0, hi0, hz0, hz1, hz2⟩ := info_parts info_num
      have hru := hr.kept kz
      have hw2 : w.heap.size + 2 < u2.heap.size := rl
      repeat (first | go_values | go_skip | go_guarded | go_step | go_upon)
      go_at_call 49
      refine (sown _ f _ (hf.kept kz) hn).mono ?_
      rintro e u3 ⟨v3, rfl, o3, k3⟩
      obtain ⟨sv, es, o3⟩ := o3
      obtain ⟨g, cap5, ef⟩ := own_some o3 hpos
      subst ef
      subst es
      have hgl := own_lt o3.1 (g := g) rfl
      have o3 := own_at o3
      clear p0 p1 p2 q0 q1 q2 pl ql rl r0c rf0 r1c rf1 r2c rf2 r3c rf3 r4c rf4
      have L0 := L0.kept k3
      have L1 := L1.kept k3
      have L2 := L2.kept k3
      have k2u := k3
      have kz := kz.trans k3
      have hu3 := k3.size
      clear k3
      have q0 := L1.cell 0 rfl
      have q1 := L1.cell 1 rfl
      have q2 := L1.cell 2 rfl
      have qf0 := L1.frozen 0
      have qf1 := L1.frozen 1
      have qf2 := L1.frozen 2
      have L1' := ((L1.set 0 (.int .i64 f.1)).set 1 (.int .i64 f.2.1)).set 2 (.slice (some ⟨g, 0, none⟩) f.2.2.length cap5)
      have BY : But (w.heap.size + 1) (w.heap.size + 2) u3 (((u3.setCell ⟨w.heap.size + 1, 0, none⟩ (.int .i64 f.1)).setCell ⟨w.heap.size + 1, 1, none⟩ (.int .i64 f.2.1)).setCell ⟨w.heap.size + 1, 2, none⟩ (.slice (some ⟨g, 0, none⟩) f.2.2.length cap5)) :=
        (((But.refl _ _ _).setCell (by simp) (by simp) _).setCell (by simp) (by simp) _).setCell (by simp) (by simp) _
      dsimp only
      go_upto_region 6 with fail
      obtain ⟨Y, hY⟩ : ∃ x, x = (((u3.setCell ⟨w.heap.size + 1, 0, none⟩ (.int .i64 f.1)).setCell ⟨w.heap.size + 1, 1, none⟩ (.int .i64 f.2.1)).setCell ⟨w.heap.size + 1, 2, none⟩ (.slice (some ⟨g, 0, none⟩) f.2.2.length cap5)) := ⟨_, rfl⟩
      rw [← hY] at L1' BY
      rw [← hY]
      clear hY q0 q1 q2 qf0 qf1 qf2
      have L1 : Loc Y (w.heap.size + 1) [.int .i64 f.1, .int .i64 f.2.1, .slice (some ⟨g, 0, none⟩) f.2.2.length cap5] := L1'
      have L0 := L0.but BY (by omega)
      have L2 := L2.but BY (by omega)
      have o3 := o3.but BY (by omega)
      have hsY := BY.size
      have KU : Kept w Y := kz.onto BY (by omega)
      clear L1' kz
      have q2 := L1.cell 2 rfl
      have HLR : Hid (NumAt Y (.slice (some ⟨g, 0, none⟩) f.2.2.length cap5) f.2.2) := o3.at
      have HTB : Hid (TilesP r.1 f.2.2) := HG.out.2.2.2.2
      repeat (first | go_values | go_skip | go_guarded | go_step | go_upon)
      clear q2
      go_loopw [6, 28] (fun x i wr => ∃ (k : Nat) (ao' : Option Addr) (c' m : Nat), k ≤ f.2.2.length ∧ i = .int .i64 k ∧ Hid (m = (cutL (openB f.2.2) k).length) ∧ x = .slice ao' m c' ∧ Hid (wr.ownsRow Y.heap.size 3 1 (.slice ao' m c') m ((cutL (openB f.2.2) k).flatMap numC)) ∧ Hid (Kept Y wr)) (fun _ i _ => f.2.2.length - (intOf i).toNat)
      case atStart => exact ⟨0, none, 0, 0, by omega, rfl, rfl, rfl, World.ownsRow_nil _ _ _ _, But.refl _ _ _⟩
      case round =>
        obtain ⟨k, ao', c', m, hk, rfl, HM, rfl, HO, HK⟩ := hrel
        by_cases hlt : k < f.2.2.length
        · obtain ⟨p, hp⟩ : ∃ p : Int, f.2.2[k]? = some p := ⟨_, List.getElem?_eq_getElem hlt⟩
          obtain ⟨b, o, cap1, ee, c0⟩ := num_get (HLR.out.kept HK.out) hp
          cases ee
          (try simp only [Nat.zero_add] at c0)
          have hgd : openB f.2.2 k = decide (p = -1) := by unfold openB; rw [List.getD_eq_getElem?_getD, hp]; rfl
          have hpb := HTB.out k hlt p hp
          have hml := cutL_len (openB f.2.2) k
          rw [← HM.out] at hml
          have hwz := HK.out.size
          have HGD : Hid (openB f.2.2 k = decide (p = -1)) := hgd
          clear hp hgd
          by_cases hp1 : p = -1
          · have d1 : decide (p < 0) = true := by simp; omega
            have HP : Hid (openB f.2.2 k = true) := by show openB f.2.2 k = true; rw [HGD.out]; exact decide_eq_true hp1
            clear hp1
            repeat (first | (at_builtin; refine forgetL (fun W => W = wr.alloc (.cells #[.int .i64 (k : Int)] 3)) rfl ?_) | go_values | go_skip | go_guarded | go_step | go_upon)
            intro WA hWA
            rw [hWA]
            clear hWA WA
            refine wpList_append_own _ rfl _ _ 26 rfl Y.heap.size 3 i0 (.int .i64 0) 1 8 Try.underlying26 hi0 hz0 hz1 hz2 rfl (by decide) _ _ _ rfl (own_kept HO.out ((But.refl _ _ wr).alloc _)) ⟨wr.heap.size, 0, none⟩ 1 1 [.int .i64 (k : Int)] rfl rfl (news1 (Loc.new wr [.int .i64 (k : Int)] 3)) (by simp [Value.oneCell']) (by unfold maxLen; omega) (by omega) (by simp; omega) ?_
            intro v' w2 hown' hgrow _
            obtain ⟨ao5, cap5, hf5, _⟩ := own_form hown'
            subst hf5
            have HK5 : Hid (Kept Y w2) := (HK.out.alloc _).grown hgrow (by intro x hx; have := own_lt HO.out hx; omega)
            have HW : Hid (w2.ownsRow Y.heap.size 3 1 (.slice ao5 (m + 1) cap5) (m + 1) ((cutL (openB f.2.2) k).flatMap numC ++ [.int .i64 (k : Int)])) := hown'
            clear hgrow hown'
            repeat (first | go_values | go_skip | go_guarded | go_step | go_upon)
            refine ⟨⟨k + 1, ao5, cap5, m + 1, hlt, by go_num, ?_, rfl, ?_, HK5⟩, by simp [intOf]; omega⟩
            · show m + 1 = _
              rw [cutL_yes HP.out, HM.out]; simp
            · show World.ownsRow _ _ _ _ _ _ _
              rw [cutL_yes HP.out, List.flatMap_append]
              exact HW.out
          · have d1 : decide (p < 0) = false := by simp; omega
            have HP : Hid (openB f.2.2 k = false) := by show openB f.2.2 k = false; rw [HGD.out]; exact decide_eq_false hp1
            repeat (first | go_values | go_skip | go_guarded | go_step | go_upon)
            refine ⟨⟨k + 1, ao', c', m, hlt, by go_num, ?_, rfl, ?_, HK⟩, by simp [intOf]; omega⟩
            · show m = _
              rw [cutL_no HP.out]; exact HM.out
            · show World.ownsRow _ _ _ _ _ _ _
              rw [cutL_no HP.out]; exact HO.out
        · have hke : k = f.2.2.length := by omega
          subst hke
          repeat (first | go_values | go_skip | go_guarded | go_step | go_upon)
          have hm := HM.out
          have hm36 : m ≤ 36 := by rw [hm]; have := cutL_len (openB f.2.2) f.2.2.length; omega
          have opn : NumO wr Y.heap.size wr.heap.size (.slice ao' m c') (openL f.2.2) := by show NumO _ _ _ _ (cutL (openB f.2.2) f.2.2.length); unfold NumO; rw [← hm]; exact RowO.top HO.out
          have hm : m = (openL f.2.2).length := hm
          subst hm
          have L0 := L0.kept HK.out
          have L1 := L1.kept HK.out
          have L2 := L2.kept HK.out
          have o3 := o3.kept HK.out
          have KV := KU.trans HK.out
          have hV := HK.out.size
          clear HO HM KU
          obtain ⟨X, hX⟩ : ∃ x, fillR r f.1 f.2.1 (openL f.2.2) f.2.2 0 0 = x := ⟨_, rfl⟩
          have HX : Hid (fillR r f.1 f.2.1 (openL f.2.2) f.2.2 0 0 = X) := hX
          clear hX
          rename World => V
          go_loopw [9, 10] (fun tv dv wr => ∃ (k tr : Nat) (l' : List Int), tv = .int .i64 tr ∧ dv = .int .i64 k ∧ k ≤ (openL f.2.2).length ∧ tr ≤ 5000 ∧ Hid (l'.length = f.2.2.length ∧ GoodP r (f.1, f.2.1, l') ∧ fillR r f.1 f.2.1 (openL f.2.2) l' k tr = X) ∧ Hid (NumO wr g (g + 1) (.slice (some ⟨g, 0, none⟩) f.2.2.length cap5) l') ∧ Hid (But g (g + 1) V wr)) (fun tv dv _ => 2 * (5000 - (intOf tv).toNat) + (intOf dv).toNat)
          case atStart => exact ⟨0, 0, f.2.2, rfl, rfl, by omega, by omega, ⟨rfl, HG.out, HX.out⟩, o3, But.refl _ _ _⟩
          case round =>
            obtain ⟨k, tr, l', rfl, rfl, hk, htr, HI, HO, HB⟩ := hrel
            have KR : Kept w wr := KV.onto HB.out (by omega)
            have M0 := L0.but HB.out (by omega)
            have M1 := L1.but HB.out (by omega)
            have M2 := L2.but HB.out (by omega)
            have hp := opn.but HB.out (by omega)
            have q2 := M1.cell 2 rfl
            by_cases hlt : k < (openL f.2.2).length
            · obtain ⟨i, hi, hiN⟩ := open_at hlt
              obtain ⟨b, oc, cap1, ee, c0⟩ := num_get hp.at hi
              cases ee
              have hil : i < l'.length := by rw [HI.out.1]; exact hiN
              obtain ⟨o, hoo⟩ : ∃ o : Int, l'[i]? = some o := ⟨_, List.getElem?_eq_getElem hil⟩
              have hob := HI.out.2.1.2.2.2.2 i hil o hoo
              obtain ⟨dc, dz⟩ := HO.out.cells hoo
              have dz0 := dz i
              have HOO : Hid (l'[i]? = some o ∧ (openL f.2.2)[k]? = some (i : Int)) := ⟨hoo, hi⟩
              obtain ⟨t0, ht0⟩ : ∃ t0 : Nat, o + 1 = (t0 : Int) := ⟨(o + 1).toNat, by omega⟩
              have HT0 : Hid (o + 1 = (t0 : Int)) := ht0
              have NQ' : NumO (wr.setCell ⟨g, i, none⟩ (.int .i64 (-1))) g (g + 1) (.slice (some ⟨g, 0, none⟩) f.2.2.length cap5) (l'.set i (-1)) := HO.out.set HI.out.1.symm hoo (-1)
              have BQ : But g (g + 1) wr (wr.setCell ⟨g, i, none⟩ (.int .i64 (-1))) := (But.refl _ _ _).setCell (by simp) (by simp) _
              have HGQ : Hid (GoodP r (f.1, f.2.1, l'.set i (-1))) := ⟨HI.out.2.1.1, field_set HI.out.2.1.2 (by omega)⟩
              have HLQ : Hid ((l'.set i (-1)).length = f.2.2.length) := by show _ = _; rw [List.length_set]; exact HI.out.1
              have HFS : Hid (∀ t : Nat, fitB r (f.1, f.2.1, l'.set i (-1)) i t = fitB r (f.1, f.2.1, l') i t) := fun t => fitB_self HI.out.2.1.2 hil t
              clear dz hoo hi
              repeat (first | go_values | go_skip | go_guarded | go_step | go_upon)
              obtain ⟨Q, hQ⟩ : ∃ x, x = wr.setCell ⟨g, i, none⟩ (.int .i64 (-1)) := ⟨_, rfl⟩
              rw [← hQ] at NQ' BQ
              rw [← hQ]
              clear hQ q2 c0 dc dz0 ht0
              have NQ : Hid (NumO Q g (g + 1) (.slice (some ⟨g, 0, none⟩) f.2.2.length cap5) (l'.set i (-1))) := NQ'
              have NQ0 : Hid (Loc Q w.heap.size [.int .i64 r.1, .slice a1 r.2.1.length c1, .slice a2 r.2.2.length c2]) := M0.but BQ (by omega)
              have NQ1 : Hid (Loc Q (w.heap.size + 1) [.int .i64 f.1, .int .i64 f.2.1, .slice (some ⟨g, 0, none⟩) f.2.2.length cap5]) := M1.but BQ (by omega)
              have NQ2 : Hid (Loc Q (w.heap.size + 2) [.bool false, .int .i64 0, .int .i64 0, .slice none 0 0, .int .i64 0]) := M2.but BQ (by omega)
              have KQ : Hid (Kept w Q) := KR.onto BQ (by omega)
              have HBQ : Hid (But g (g + 1) V Q) := HB.out.trans BQ
              clear NQ' BQ M0 M1 M2 KR hp
              go_loopw [12] (fun sv wr => ∃ t : Nat, (t : Int) ≤ r.1 ∧ sv = .int .i64 t ∧ Hid (o < (t : Int) ∧ ∀ j : Nat, j < t → o < (j : Int) → fitB r (f.1, f.2.1, l') i j = false) ∧ Hid (Kept Q wr)) (fun sv _ => r.1.toNat - (intOf sv).toNat)
              case atStart => exact ⟨t0, by have := HT0.out; omega, rfl, ⟨by have := HT0.out; omega, fun j hj hoj => by have := HT0.out; omega⟩, But.refl _ _ _⟩
              case round =>
                obtain ⟨t, ht, rfl, HN, HK3⟩ := hrel
                have J0 := NQ0.out.kept HK3.out
                have J1 := NQ1.out.kept HK3.out
                have p0 := J0.cell 0 rfl
                have p1 := J0.cell 1 rfl
                have p2 := J0.cell 2 rfl
                have q0 := J1.cell 0 rfl
                have q1 := J1.cell 1 rfl
                have q2 := J1.cell 2 rfl
                by_cases hts : (t : Int) < r.1
                · have d5 : decide ((t : Int) < r.1) = true := decide_eq_true hts
                  have d6 : ((t : Int) == r.1) = false := by simp; omega
                  cases q : fitB r (f.1, f.2.1, l') i t with
                  | false =>
                    repeat (first | (go_at_call 50; refine (sfits _ _ r (f.1, f.2.1, l'.set i (-1)) (i : Int) (t : Int) _ (hr.kept (KQ.out.trans HK3.out)) (field_own (NQ.out.kept HK3.out) HLQ.out) HGQ.out (by omega) (by have := HLQ.out; dsimp only; omega) ⟨by omega, hts⟩).mono ?_; rintro e y1 ⟨rfl, ky⟩; rw [show dec (FitP r (f.1, f.2.1, l'.set i (-1)) (i : Int) (t : Int)) = fitB r (f.1, f.2.1, l'.set i (-1)) i t from rfl, HFS.out t, q]; dsimp only) | go_values | go_skip | go_guarded | go_step | go_upon)
                    refine ⟨⟨t + 1, by omega, by go_num, ⟨by have := HN.out; omega, fun j hj hoj => ?_⟩, HK3.out.trans ky⟩, by simp [intOf]; omega⟩
                    by_cases hjt : j = t
                    · subst hjt; exact q
                    · exact HN.out.2 j (by omega) hoj
                  | true =>
                    have hx : nextT r (f.1, f.2.1, l') i o = some t := next_some hts HN.out.1 q HN.out.2
                    have HNX : Hid (nextT r (f.1, f.2.1, l') i o = some t) := hx
                    clear hx
                    by_cases ht5 : tr = 5000
                    · have d7 : ((tr : Int) == 5000) = true := by simp; omega
                      have HT5 : Hid (tr = 5000) := ht5
                      clear ht5
                      repeat (first | (go_at_call 50; refine (sfits _ _ r (f.1, f.2.1, l'.set i (-1)) (i : Int) (t : Int) _ (hr.kept (KQ.out.trans HK3.out)) (field_own (NQ.out.kept HK3.out) HLQ.out) HGQ.out (by omega) (by have := HLQ.out; dsimp only; omega) ⟨by omega, hts⟩).mono ?_; rintro e y1 ⟨rfl, ky⟩; rw [show dec (FitP r (f.1, f.2.1, l'.set i (-1)) (i : Int) (t : Int)) = fitB r (f.1, f.2.1, l'.set i (-1)) i t from rfl, HFS.out t, q]; have p0 := Kept.cell ky p0; have J2 := NQ2.out.kept (HK3.out.trans ky); have r0c := J2.cell 0 rfl; have rf0 := J2.frozen 0; have r1c := J2.cell 1 rfl; have rf1 := J2.frozen 1; have r2c := J2.cell 2 rfl; have rf2 := J2.frozen 2; have r3c := J2.cell 3 rfl; have rf3 := J2.frozen 3; have r4c := J2.cell 4 rfl; have rf4 := J2.frozen 4; dsimp only) | go_values | go_skip | go_guarded | go_step | go_upon)
                      refine bodyPost_ret (v := .tuple #[.agg #[.bool false, .int .i64 0, .int .i64 0, .slice none 0 0, .int .i64 (tr : Int)], .bool true]) (by simp [results, Try.results13, go_sem, *]) rfl ?_
                      have hX := HI.out.2.2
                      rw [fillR_full hlt HOO.out.2 HOO.out.1 HNX.out HT5.out] at hX
                      rw [fillF_no (HX.out.trans hX.symm) rfl]
                      have KJ := KQ.out.trans (HK3.out.trans ky)
                      exact ⟨_, rfl, no_filled _ _ _ _, ((((KJ.setNew (by first | (simp; done) | (simp; omega)) _).setNew (by first | (simp; done) | (simp; omega)) _).setNew (by first | (simp; done) | (simp; omega)) _).setNew (by first | (simp; done) | (simp; omega)) _).setNew (by first | (simp; done) | (simp; omega)) _⟩
                    · have d7 : ((tr : Int) == 5000) = false := by simp; omega
                      have HT5 : Hid (tr < 5000) := show tr < 5000 by omega
                      clear ht5
                      have hgi : (l'.set i (-1))[i]? = some (-1) := by rw [List.getElem?_set_self hil]
                      have HGI : Hid ((l'.set i (-1))[i]? = some (-1)) := hgi
                      clear hgi
                      repeat (first | (go_at_call 50; refine (sfits _ _ r (f.1, f.2.1, l'.set i (-1)) (i : Int) (t : Int) _ (hr.kept (KQ.out.trans HK3.out)) (field_own (NQ.out.kept HK3.out) HLQ.out) HGQ.out (by omega) (by have := HLQ.out; dsimp only; omega) ⟨by omega, hts⟩).mono ?_; rintro e y1 ⟨rfl, ky⟩; rw [show dec (FitP r (f.1, f.2.1, l'.set i (-1)) (i : Int) (t : Int)) = fitB r (f.1, f.2.1, l'.set i (-1)) i t from rfl, HFS.out t, q]; have p0 := Kept.cell ky p0; have q2 := Kept.cell ky q2; have NJ := NQ.out.kept (HK3.out.trans ky); have dcz := NJ.cells HGI.out; have dc := dcz.1; have dz1 := dcz.2 i; clear dcz; dsimp only) | go_values | go_skip | go_guarded | go_step | go_upon)
                      refine ⟨⟨k + 1, tr + 1, l'.set i (t : Int), by go_num, by go_num, by omega, by have := HT5.out; omega, ?_, ?_, ?_⟩, by have := HT5.out; simp [intOf]; omega⟩
                      · refine ⟨by rw [List.length_set]; exact HI.out.1, ⟨HI.out.2.1.1, field_set HI.out.2.1.2 (by omega)⟩, ?_⟩
                        rw [← HI.out.2.2]
                        exact (fillR_lay hlt HOO.out.2 HOO.out.1 HNX.out HT5.out).symm
                      · have h9 := NJ.set HLQ.out.symm HGI.out (t : Int)
                        rw [List.set_set] at h9
                        exact h9
                      · exact (HBQ.out.trans (But.of (HK3.out.trans ky))).trans ((But.refl _ _ _).setCell (by simp) (by simp) _)
                · have d5 : decide ((t : Int) < r.1) = false := decide_eq_false hts
                  have d6 : ((t : Int) == r.1) = true := by simp; omega
                  have hx : nextT r (f.1, f.2.1, l') i o = none := next_none fun j hj hoj => HN.out.2 j (by omega) hoj
                  have HNX : Hid (nextT r (f.1, f.2.1, l') i o = none) := hx
                  clear hx
                  by_cases hk0 : k = 0
                  · have d8 : decide ((k : Int) - 1 < 0) = true := by simp; omega
                    have HK0 : Hid (k = 0) := hk0
                    have J2 := NQ2.out.kept HK3.out
                    have r0c := J2.cell 0 rfl
                    have r1c := J2.cell 1 rfl
                    have r2c := J2.cell 2 rfl
                    have r3c := J2.cell 3 rfl
                    have r4c := J2.cell 4 rfl
                    have rf0 := J2.frozen 0
                    have rf1 := J2.frozen 1
                    have rf2 := J2.frozen 2
                    have rf3 := J2.frozen 3
                    have rf4 := J2.frozen 4
                    clear hk0
                    repeat (first | go_values | go_skip | go_guarded | go_step | go_upon)
                    refine bodyPost_ret (v := .tuple #[.agg #[.bool false, .int .i64 0, .int .i64 0, .slice none 0 0, .int .i64 (tr : Int)], .bool true]) (by simp [results, Try.results13, go_sem, *]) rfl ?_
                    have hX := HI.out.2.2
                    rw [fillR_stuck hlt HOO.out.2 HOO.out.1 HNX.out HK0.out] at hX
                    rw [fillF_no (HX.out.trans hX.symm) rfl]
                    have KJ := KQ.out.trans HK3.out
                    exact ⟨_, rfl, no_filled _ _ _ _, ((((KJ.setNew (by first | (simp; done) | (simp; omega)) _).setNew (by first | (simp; done) | (simp; omega)) _).setNew (by first | (simp; done) | (simp; omega)) _).setNew (by first | (simp; done) | (simp; omega)) _).setNew (by first | (simp; done) | (simp; omega)) _⟩
                  · have d8 : decide ((k : Int) - 1 < 0) = false := by simp; omega
                    have HK0 : Hid (k ≠ 0) := hk0
                    clear hk0
                    repeat (first | go_values | go_skip | go_guarded | go_step | go_upon)
                    refine ⟨⟨k - 1, tr, l'.set i (-1), rfl, by have := HK0.out; congr 1; omega, by omega, htr, ?_, ?_, ?_⟩, by have := HK0.out; simp [intOf]; omega⟩
                    · refine ⟨HLQ.out, HGQ.out, ?_⟩
                      rw [← HI.out.2.2]
                      exact (fillR_back hlt HOO.out.2 HOO.out.1 HNX.out HK0.out).symm
                    · exact NQ.out.kept HK3.out
                    · exact HBQ.out.trans (But.of HK3.out)
            · have q0 := M1.cell 0 rfl
              have q1 := M1.cell 1 rfl
              have r0c := M2.cell 0 rfl
              have r1c := M2.cell 1 rfl
              have r2c := M2.cell 2 rfl
              have r3c := M2.cell 3 rfl
              have r4c := M2.cell 4 rfl
              have rf0 := M2.frozen 0
              have rf1 := M2.frozen 1
              have rf2 := M2.frozen 2
              have rf3 := M2.frozen 3
              have rf4 := M2.frozen 4
              repeat (first | go_values | go_skip | go_guarded | go_step | go_upon)
              refine bodyPost_ret (v := .tuple #[.agg #[.bool true, .int .i64 f.1, .int .i64 f.2.1, .slice (some ⟨g, 0, none⟩) f.2.2.length cap5, .int .i64 (tr : Int)], .bool true]) (by simp [results, Try.results13, go_sem, *]) rfl ?_
              have hX := HI.out.2.2
              rw [fillR_end hlt] at hX
              rw [fillF_yes (HX.out.trans hX.symm) rfl]
              have hB := HB.out.size
              have ho9 := own_lt HO.out.1 (g := g) rfl
              refine ⟨_, rfl, ⟨_, rfl, ?_⟩, ((((KR.setNew (by first | (simp; done) | (simp; omega)) _).setNew (by first | (simp; done) | (simp; omega)) _).setNew (by first | (simp; done) | (simp; omega)) _).setNew (by first | (simp; done) | (simp; omega)) _).setNew (by first | (simp; done) | (simp; omega)) _⟩
              refine NumO.low (lo := w.heap.size) (hi := wr.heap.size) (NumO.mono (NumO.but (lo' := w.heap.size + 2) (hi' := w.heap.size + 3) HO.out ((((((But.refl _ _ _).setCell (by simp) (by simp) _).setCell (by simp) (by simp) _).setCell (by simp) (by simp) _).setCell (by simp) (by simp) _).setCell (by simp) (by simp) _) (by omega)) (by omega) (by omega))

end Go.Proofs.Ytopakblckajdmaa
