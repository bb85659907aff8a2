/-
  Whether a field holds, in the program.
-/
import Derived.Test.YtopakblckajdmaaSHolds14
namespace Go.Proofs.Ytopakblckajdmaa
open Go.ChangeShapes Go.WideShapes Go.ChangeAt Go.RowKit

set_option maxRecDepth 100000
set_option linter.unusedVariables false
set_option maxHeartbeats 4000000 in
theorem itil (rv fv : Value) (r : RulesD) (f : FieldD) (w : World) (hr : RulesAt w rv r) (hf : FieldAt w fv f) :
    Calls Try.prog 44 #[rv, fv] w fun e w' => ∃ a1 c1 a2 c2 ao cap, rv = .agg #[.int .i64 r.1, .slice a1 r.2.1.length c1, .slice a2 r.2.2.length c2] ∧ fv = .agg #[.int .i64 f.1, .int .i64 f.2.1, .slice ao f.2.2.length cap] ∧ e = .returned (.agg #[.int .i64 r.1, .slice a1 r.2.1.length c1, .slice a2 r.2.2.length c2, .int .i64 f.1, .int .i64 f.2.1, .slice ao f.2.2.length cap]) ∧ Kept w w' := by
  obtain ⟨a1, c1, a2, c2, hfm⟩ := hr.form
  subst hfm
  obtain ⟨ao, cap, hfm⟩ := hf.form
  subst hfm
  go_enter Try.func44, Try.ntmps44
  go_wp2
  refine bodyPost_ret (v := .agg #[.int .i64 r.1, .slice a1 r.2.1.length c1, .slice a2 r.2.2.length c2, .int .i64 f.1, .int .i64 f.2.1, .slice ao f.2.2.length cap]) (by simp [results, Try.results44, go_sem, *]) rfl ?_
  exact ⟨_, _, _, _, _, _, rfl, rfl, rfl, by (repeat (first | with_reducible exact But.refl _ _ _ | with_reducible apply But.drewN | with_reducible apply But.drew | with_reducible apply But.alloc | (with_reducible refine But.setNew ?_ (by simp; try omega) _)))⟩
theorem til_at {w : World} {r : RulesD} {f : FieldD} {a1 a2 ao : Option Addr} {c1 c2 cap : Nat} (hr : RulesAt w (.agg #[.int .i64 r.1, .slice a1 r.2.1.length c1, .slice a2 r.2.2.length c2]) r) (hf : FieldAt w (.agg #[.int .i64 f.1, .int .i64 f.2.1, .slice ao f.2.2.length cap]) f) : TilAt w (.agg #[.int .i64 r.1, .slice a1 r.2.1.length c1, .slice a2 r.2.2.length c2, .int .i64 f.1, .int .i64 f.2.1, .slice ao f.2.2.length cap]) r f :=
  ⟨a1, c1, a2, c2, ao, cap, rfl, hr.parts.1, hr.parts.2, hf.row⟩

set_option maxHeartbeats 8000000 in
theorem iholds (rv fv : Value) (r : RulesD) (f : FieldD) (w : World) (hr : RulesAt w rv r) (hf : FieldAt w fv f) (hc : rulesCost r ≤ 1048576) (hn : f.2.2.length ≤ 1048576) :
    Calls Try.prog 26 #[rv, fv] w fun e w' => e = .returned (.bool (dec (GoodP r f ∧ HoldsP r f))) ∧ Kept w w' := by
  obtain ⟨a1, c1, a2, c2, hfm⟩ := hr.form
  subst hfm
  obtain ⟨ao, cap, hfm⟩ := hf.form
  subst hfm
  cases d1 : dec (GoodP r f) with
  | false =>
    rw [show dec (GoodP r f ∧ HoldsP r f) = false from dec_no fun h => of_dec_no d1 h.1]
    go_enter Try.func26, Try.ntmps26
    go_upto_region 1 with fail
    obtain ⟨W, hW⟩ : ∃ x, x = ((w.alloc (.cells #[.int .i64 r.1, .slice a1 r.2.1.length c1, .slice a2 r.2.2.length c2] 25)).alloc (.cells #[.int .i64 f.1, .int .i64 f.2.1, .slice ao f.2.2.length cap] 28)) := ⟨_, rfl⟩
    have kz : Kept w W := by rw [hW]; exact ((But.refl _ _ _).alloc _).alloc _
    have L0 : Loc W w.heap.size [.int .i64 r.1, .slice a1 r.2.1.length c1, .slice a2 r.2.2.length c2] := by rw [hW]; exact (Loc.new w [.int .i64 r.1, .slice a1 r.2.1.length c1, .slice a2 r.2.2.length c2] 25).alloc (.cells #[.int .i64 f.1, .int .i64 f.2.1, .slice ao f.2.2.length cap] 28)
    have L1 : Loc W (w.heap.size + 1) [.int .i64 f.1, .int .i64 f.2.1, .slice ao f.2.2.length cap] := by rw [hW]; have := Loc.new (w.alloc (.cells #[.int .i64 r.1, .slice a1 r.2.1.length c1, .slice a2 r.2.2.length c2] 25)) [.int .i64 f.1, .int .i64 f.2.1, .slice ao f.2.2.length cap] 28; simpa using this
    rw [← hW]
    clear hW
    have p0 := L0.cell 0 rfl
    have q0 := L1.cell 0 rfl
    have p1 := L0.cell 1 rfl
    have q1 := L1.cell 1 rfl
    have p2 := L0.cell 2 rfl
    have q2 := L1.cell 2 rfl
    have pl := L0.lt
    have ql := L1.lt
    repeat (first | go_values | go_skip | go_guarded | go_step | go_upon)
    go_at_call 24
    refine (igoodF _ _ r f _ (hr.kept kz) (hf.kept kz) hc hn).mono ?_
    rintro e u1 ⟨rfl, k1⟩
    rw [d1]
    dsimp only
    repeat (first | go_values | go_skip | go_guarded | go_step | go_upon)
    go_ret
    exact ⟨rfl, kz.trans k1⟩
  | true =>
    have hg := of_dec d1
    have hlen := good_len hg
    have HG : Hid (GoodP r f) := hg
    rw [show dec (GoodP r f ∧ HoldsP r f) = dec (HoldsP r f) by rw [dec_and, d1]; rfl]
    go_enter Try.func26, Try.ntmps26
    go_upto_region 1 with fail
    obtain ⟨W, hW⟩ : ∃ x, x = ((w.alloc (.cells #[.int .i64 r.1, .slice a1 r.2.1.length c1, .slice a2 r.2.2.length c2] 25)).alloc (.cells #[.int .i64 f.1, .int .i64 f.2.1, .slice ao f.2.2.length cap] 28)) := ⟨_, rfl⟩
    have kz : Kept w W := by rw [hW]; exact ((But.refl _ _ _).alloc _).alloc _
    have L0 : Loc W w.heap.size [.int .i64 r.1, .slice a1 r.2.1.length c1, .slice a2 r.2.2.length c2] := by rw [hW]; exact (Loc.new w [.int .i64 r.1, .slice a1 r.2.1.length c1, .slice a2 r.2.2.length c2] 25).alloc (.cells #[.int .i64 f.1, .int .i64 f.2.1, .slice ao f.2.2.length cap] 28)
    have L1 : Loc W (w.heap.size + 1) [.int .i64 f.1, .int .i64 f.2.1, .slice ao f.2.2.length cap] := by rw [hW]; have := Loc.new (w.alloc (.cells #[.int .i64 r.1, .slice a1 r.2.1.length c1, .slice a2 r.2.2.length c2] 25)) [.int .i64 f.1, .int .i64 f.2.1, .slice ao f.2.2.length cap] 28; simpa using this
    rw [← hW]
    clear hW
    have p0 := L0.cell 0 rfl
    have q0 := L1.cell 0 rfl
    have p1 := L0.cell 1 rfl
    have q1 := L1.cell 1 rfl
    have p2 := L0.cell 2 rfl
    have q2 := L1.cell 2 rfl
    have pl := L0.lt
    have ql := L1.lt
    repeat (first | go_values | go_skip | go_guarded | go_step | go_upon)
    go_at_call 24
    refine (igoodF _ _ r f _ (hr.kept kz) (hf.kept kz) hc hn).mono ?_
    rintro e u1 ⟨rfl, k1⟩
    rw [d1]
    have L0 := L0.kept k1
    have L1 := L1.kept k1
    have kz := kz.trans k1
    clear p0 p1 p2 q0 q1 q2 pl ql
    have p0 := L0.cell 0 rfl
    have q0 := L1.cell 0 rfl
    have p1 := L0.cell 1 rfl
    have q1 := L1.cell 1 rfl
    have p2 := L0.cell 2 rfl
    have q2 := L1.cell 2 rfl
    have pl := L0.lt
    have ql := L1.lt
    clear hg
    dsimp only
    repeat (first | go_values | go_skip | go_guarded | go_step | go_upon)
    go_at_call 44
    refine (itil _ _ r f _ (hr.kept kz) (hf.kept kz)).mono ?_
    rintro e u2 ⟨a1', c1', a2', c2', ao', cap', e1, e2, rfl, k2⟩
    cases e1
    cases e2
    have L1u := L1.kept k2
    have L1 := L1u.alloc (.cells #[.int .i64 r.1, .slice a1 r.2.1.length c1, .slice a2 r.2.2.length c2, .int .i64 f.1, .int .i64 f.2.1, .slice ao f.2.2.length cap] 66)
    have kz := kz.trans k2
    have ht := til_at (hr.kept kz) (hf.kept kz)
    have hf := hf.kept kz
    clear p0 p1 p2 q0 q1 q2 pl ql
    clear k1 k2 L0
    have q2 := L1u.cell 2 rfl
    have ql := L1u.lt
    dsimp only
    repeat (first | go_values | go_skip | go_guarded | go_step | go_upon)
    clear q2 ql L1u
    obtain ⟨X, hX⟩ : ∃ x, x = u2.alloc (.cells #[.int .i64 r.1, .slice a1 r.2.1.length c1, .slice a2 r.2.2.length c2, .int .i64 f.1, .int .i64 f.2.1, .slice ao f.2.2.length cap] 66) := ⟨_, rfl⟩
    have kx : Kept u2 X := by rw [hX]; exact (But.refl _ _ _).alloc _
    have LX : Loc X u2.heap.size [.int .i64 r.1, .slice a1 r.2.1.length c1, .slice a2 r.2.2.length c2, .int .i64 f.1, .int .i64 f.2.1, .slice ao f.2.2.length cap] := by rw [hX]; exact Loc.new _ _ _
    have L1 : Loc X (w.heap.size + 1) [.int .i64 f.1, .int .i64 f.2.1, .slice ao f.2.2.length cap] := by rw [hX]; exact L1
    rw [← hX]
    clear hX
    go_loopw [18] (fun i wr => ∃ k : Nat, k ≤ f.2.2.length ∧ i = .int .i64 k ∧ Hid (∀ j : Nat, j < k → ∀ p : Int, f.2.2[j]? = some p → FitP r f j p) ∧ Hid (Kept X wr)) (fun i _ => f.2.2.length - (intOf i).toNat)
    case atStart => exact ⟨0, by omega, rfl, fun j hj => by omega, But.refl _ _ _⟩
    case round =>
      obtain ⟨k, hk, rfl, HB, HK⟩ := hrel
      have MX := LX.kept HK.out
      have p0 := MX.cell 0 rfl
      have p1 := MX.cell 1 rfl
      have p2 := MX.cell 2 rfl
      have p3 := MX.cell 3 rfl
      have p4 := MX.cell 4 rfl
      have p5 := MX.cell 5 rfl
      by_cases hlt : k < f.2.2.length
      · obtain ⟨p, hp⟩ : ∃ p : Int, f.2.2[k]? = some p := ⟨_, List.getElem?_eq_getElem hlt⟩
        obtain ⟨g, o, cap1, ee, c0⟩ := num_get ((hf.kept kx).kept HK.out).row hp
        cases ee
        have HP : Hid (f.2.2[k]? = some p) := hp
        have hpb := HG.out.2.2.2.2 k hlt p hp
        clear hp
        cases q : dec (FitP r f k p) with
        | false =>
          repeat (first | (go_at_call 59; refine (imay _ r f k p _ ((ht.kept kx).kept HK.out) HG.out (by omega) (by omega) hpb).mono ?_; rintro e u1 ⟨rfl, k1⟩; rw [q]; dsimp only) | go_values | go_skip | go_guarded | go_step | go_upon)
          go_ret
          exact ⟨ret_bool (dec_no fun h => of_dec_no q (h k hlt p HP.out)).symm, ((kz.trans kx).trans HK.out).trans k1⟩
        | true =>
          repeat (first | (go_at_call 59; refine (imay _ r f k p _ ((ht.kept kx).kept HK.out) HG.out (by omega) (by omega) hpb).mono ?_; rintro e u1 ⟨rfl, k1⟩; rw [q]; dsimp only) | go_values | go_skip | go_guarded | go_step | go_upon)
          refine ⟨⟨k + 1, hlt, by go_num, ?_, HK.out.trans k1⟩, by simp [intOf]; omega⟩
          intro j hj p' hp'
          by_cases hjk : j = k
          · subst hjk
            rw [HP.out] at hp'
            cases hp'
            exact of_dec q
          · exact HB.out j (by omega) p' hp'
      · have hke : k = f.2.2.length := by omega
        subst hke
        repeat (first | go_values | go_skip | go_guarded | go_step | go_upon)
        go_ret
        exact ⟨ret_bool (dec_yes HB.out).symm, (kz.trans kx).trans HK.out⟩

end Go.Proofs.Ytopakblckajdmaa
