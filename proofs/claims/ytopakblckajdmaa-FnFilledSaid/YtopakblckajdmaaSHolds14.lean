/-
  Whether a field holds, in the specification.
-/
import Derived.Test.YtopakblckajdmaaSFit14
import Derived.Test.YtopakblckajdmaaIMay14
namespace Go.Proofs.Ytopakblckajdmaa
open Go.ChangeShapes Go.WideShapes Go.ChangeAt Go.RowKit

set_option maxRecDepth 100000
set_option linter.unusedVariables false
def HoldsP (r : RulesD) (f : FieldD) : Prop := ∀ i : Nat, i < f.2.2.length → ∀ p : Int, f.2.2[i]? = some p → FitP r f i p
theorem fit_open (r : RulesD) (f : FieldD) (n : Int) : FitP r f n (-1) := ⟨.inr (.inl rfl), .inl rfl, .inr (.inl rfl), .inl rfl⟩
theorem good_len {r : RulesD} {f : FieldD} (hg : GoodP r f) : f.2.2.length ≤ 36 := by have := hg.2.2.2.1; have := mul_in hg.2.1.1 hg.2.1.2 hg.2.2.1.1 hg.2.2.1.2; omega

set_option maxHeartbeats 8000000 in
theorem slholds (rv fv : Value) (r : RulesD) (f : FieldD) (w : World) (hr : RulesAt w rv r) (hf : FieldAt w fv f) (hg : GoodP r f) :
    Calls Try.prog 48 #[rv, fv] w fun e w' => e = .returned (.bool (dec (HoldsP r f))) ∧ Kept w w' := by
  obtain ⟨a1, c1, a2, c2, hfm⟩ := hr.form
  subst hfm
  obtain ⟨ao, cap, hfm⟩ := hf.form
  subst hfm
  have hlen := good_len hg
  have HG : Hid (GoodP r f) := hg
  go_enter Try.func48, Try.ntmps48
  go_upto_region 1 with fail
  obtain ⟨W, hW⟩ : ∃ x, x = ((w.alloc (.cells #[.int .i64 r.1, .slice a1 r.2.1.length c1, .slice a2 r.2.2.length c2] 25)).alloc (.cells #[.int .i64 f.1, .int .i64 f.2.1, .slice ao f.2.2.length cap] 28)) := ⟨_, rfl⟩
  have kz : Kept w W := by rw [hW]; exact ((But.refl _ _ _).alloc _).alloc _
  have L0 : Loc W w.heap.size [.int .i64 r.1, .slice a1 r.2.1.length c1, .slice a2 r.2.2.length c2] := by rw [hW]; exact (Loc.new w [.int .i64 r.1, .slice a1 r.2.1.length c1, .slice a2 r.2.2.length c2] 25).alloc (.cells #[.int .i64 f.1, .int .i64 f.2.1, .slice ao f.2.2.length cap] 28)
  have L1 : Loc W (w.heap.size + 1) [.int .i64 f.1, .int .i64 f.2.1, .slice ao f.2.2.length cap] := by rw [hW]; have := Loc.new (w.alloc (.cells #[.int .i64 r.1, .slice a1 r.2.1.length c1, .slice a2 r.2.2.length c2] 25)) [.int .i64 f.1, .int .i64 f.2.1, .slice ao f.2.2.length cap] 28; simpa using this
  rw [← hW]
  clear hW
  have p0 := L0.cell 0 rfl
  have q0 := L1.cell 0 rfl
  have p1 := L0.cell 1 rfl
  have q1 := L1.cell 1 rfl
  have p2 := L0.cell 2 rfl
  have q2 := L1.cell 2 rfl
  have pl := L0.lt
  have ql := L1.lt
  have hr := hr.kept kz
  have hf := hf.kept kz
  repeat (first | go_values | go_skip | go_guarded | go_step | go_upon)
  go_loopw [10] (fun i wr => ∃ k : Nat, k ≤ f.2.2.length ∧ i = .int .i64 k ∧ Hid (∀ j : Nat, j < k → ∀ p : Int, f.2.2[j]? = some p → FitP r f j p) ∧ Hid (Kept W wr)) (fun i _ => f.2.2.length - (intOf i).toNat)
  case atStart => exact ⟨0, by omega, rfl, fun j hj => by omega, But.refl _ _ _⟩
  case round =>
    obtain ⟨k, hk, rfl, HB, HK⟩ := hrel
    have M0 := L0.kept HK.out
    have M1 := L1.kept HK.out
    clear p0 p1 p2 q0 q1 q2 pl ql
    have p0 := M0.cell 0 rfl
    have q0 := M1.cell 0 rfl
    have p1 := M0.cell 1 rfl
    have q1 := M1.cell 1 rfl
    have p2 := M0.cell 2 rfl
    have q2 := M1.cell 2 rfl
    have pl := M0.lt
    have ql := M1.lt
    by_cases hlt : k < f.2.2.length
    · obtain ⟨p, hp⟩ : ∃ p : Int, f.2.2[k]? = some p := ⟨_, List.getElem?_eq_getElem hlt⟩
      obtain ⟨g, o, cap1, ee, c0⟩ := num_get (hf.kept HK.out).row hp
      cases ee
      have HP : Hid (f.2.2[k]? = some p) := hp
      have hpb := HG.out.2.2.2.2 k hlt p hp
      clear hp
      have goon : FitP r f k p → ∀ j : Nat, j < k + 1 → ∀ p : Int, f.2.2[j]? = some p → FitP r f j p := by
        intro hfp j hj p' hp'
        by_cases hjk : j = k
        · subst hjk
          rw [HP.out] at hp'
          cases hp'
          exact hfp
        · exact HB.out j (by omega) p' hp'
      have HGO : Hid _ := goon
      clear goon
      by_cases h1 : 0 ≤ p
      · have d1 : decide (0 ≤ p) = true := decide_eq_true h1
        cases q : dec (FitP r f k p) with
        | false =>
          repeat (first | (go_at_call 50; refine (sfits _ _ r f k p _ (hr.kept HK.out) (hf.kept HK.out) HG.out (by omega) (by omega) ⟨h1, hpb.2⟩).mono ?_; rintro e u1 ⟨rfl, k1⟩; rw [q]; dsimp only) | go_values | go_skip | go_guarded | go_step | go_upon)
          go_ret
          exact ⟨ret_bool (dec_no fun h => of_dec_no q (h k hlt p HP.out)).symm, (kz.trans HK.out).trans k1⟩
        | true =>
          repeat (first | (go_at_call 50; refine (sfits _ _ r f k p _ (hr.kept HK.out) (hf.kept HK.out) HG.out (by omega) (by omega) ⟨h1, hpb.2⟩).mono ?_; rintro e u1 ⟨rfl, k1⟩; rw [q]; dsimp only) | go_values | go_skip | go_guarded | go_step | go_upon)
          exact ⟨⟨k + 1, hlt, by go_num, HGO.out (of_dec q), HK.out.trans k1⟩, by simp [intOf]; omega⟩
      · have d1 : decide (0 ≤ p) = false := decide_eq_false h1
        repeat (first | go_values | go_skip | go_guarded | go_step | go_upon)
        refine ⟨⟨k + 1, hlt, by go_num, HGO.out ?_, HK⟩, by simp [intOf]; omega⟩
        have : p = -1 := by omega
        rw [this]
        exact fit_open _ _ _
    · have hke : k = f.2.2.length := by omega
      subst hke
      repeat (first | go_values | go_skip | go_guarded | go_step | go_upon)
      go_ret
      exact ⟨ret_bool (dec_yes HB.out).symm, kz.trans HK.out⟩

set_option maxHeartbeats 8000000 in
theorem sholds (rv fv : Value) (r : RulesD) (f : FieldD) (w : World) (hr : RulesAt w rv r) (hf : FieldAt w fv f) (hc : rulesCost r ≤ 1048576) (hn : f.2.2.length ≤ 1048576) :
    Calls Try.prog 14 #[rv, fv] w fun e w' => e = .returned (.bool (dec (GoodP r f ∧ HoldsP r f))) ∧ Kept w w' := by
  obtain ⟨a1, c1, a2, c2, hfm⟩ := hr.form
  subst hfm
  obtain ⟨ao, cap, hfm⟩ := hf.form
  subst hfm
  cases d1 : dec (GoodP r f) with
  | false =>
    rw [show dec (GoodP r f ∧ HoldsP r f) = false from dec_no fun h => of_dec_no d1 h.1]
    go_enter Try.func14, Try.ntmps14
    go_upto_region 1 with fail
    obtain ⟨W, hW⟩ : ∃ x, x = ((w.alloc (.cells #[.int .i64 r.1, .slice a1 r.2.1.length c1, .slice a2 r.2.2.length c2] 25)).alloc (.cells #[.int .i64 f.1, .int .i64 f.2.1, .slice ao f.2.2.length cap] 28)) := ⟨_, rfl⟩
    have kz : Kept w W := by rw [hW]; exact ((But.refl _ _ _).alloc _).alloc _
    have L0 : Loc W w.heap.size [.int .i64 r.1, .slice a1 r.2.1.length c1, .slice a2 r.2.2.length c2] := by rw [hW]; exact (Loc.new w [.int .i64 r.1, .slice a1 r.2.1.length c1, .slice a2 r.2.2.length c2] 25).alloc (.cells #[.int .i64 f.1, .int .i64 f.2.1, .slice ao f.2.2.length cap] 28)
    have L1 : Loc W (w.heap.size + 1) [.int .i64 f.1, .int .i64 f.2.1, .slice ao f.2.2.length cap] := by rw [hW]; have := Loc.new (w.alloc (.cells #[.int .i64 r.1, .slice a1 r.2.1.length c1, .slice a2 r.2.2.length c2] 25)) [.int .i64 f.1, .int .i64 f.2.1, .slice ao f.2.2.length cap] 28; simpa using this
    rw [← hW]
    clear hW
    have p0 := L0.cell 0 rfl
    have q0 := L1.cell 0 rfl
    have p1 := L0.cell 1 rfl
    have q1 := L1.cell 1 rfl
    have p2 := L0.cell 2 rfl
    have q2 := L1.cell 2 rfl
    have pl := L0.lt
    have ql := L1.lt
    repeat (first | go_values | go_skip | go_guarded | go_step | go_upon)
    go_at_call 22
    refine (sgoodF _ _ r f _ (hr.kept kz) (hf.kept kz) hc hn).mono ?_
    rintro e u1 ⟨rfl, k1⟩
    rw [d1]
    dsimp only
    repeat (first | go_values | go_skip | go_guarded | go_step | go_upon)
    go_ret
    exact ⟨rfl, kz.trans k1⟩
  | true =>
    go_enter Try.func14, Try.ntmps14
    go_upto_region 1 with fail
    obtain ⟨W, hW⟩ : ∃ x, x = ((w.alloc (.cells #[.int .i64 r.1, .slice a1 r.2.1.length c1, .slice a2 r.2.2.length c2] 25)).alloc (.cells #[.int .i64 f.1, .int .i64 f.2.1, .slice ao f.2.2.length cap] 28)) := ⟨_, rfl⟩
    have kz : Kept w W := by rw [hW]; exact ((But.refl _ _ _).alloc _).alloc _
    have L0 : Loc W w.heap.size [.int .i64 r.1, .slice a1 r.2.1.length c1, .slice a2 r.2.2.length c2] := by rw [hW]; exact (Loc.new w [.int .i64 r.1, .slice a1 r.2.1.length c1, .slice a2 r.2.2.length c2] 25).alloc (.cells #[.int .i64 f.1, .int .i64 f.2.1, .slice ao f.2.2.length cap] 28)
    have L1 : Loc W (w.heap.size + 1) [.int .i64 f.1, .int .i64 f.2.1, .slice ao f.2.2.length cap] := by rw [hW]; have := Loc.new (w.alloc (.cells #[.int .i64 r.1, .slice a1 r.2.1.length c1, .slice a2 r.2.2.length c2] 25)) [.int .i64 f.1, .int .i64 f.2.1, .slice ao f.2.2.length cap] 28; simpa using this
    rw [← hW]
    clear hW
    have p0 := L0.cell 0 rfl
    have q0 := L1.cell 0 rfl
    have p1 := L0.cell 1 rfl
    have q1 := L1.cell 1 rfl
    have p2 := L0.cell 2 rfl
    have q2 := L1.cell 2 rfl
    have pl := L0.lt
    have ql := L1.lt
    repeat (first | go_values | go_skip | go_guarded | go_step | go_upon)
    go_at_call 22
    refine (sgoodF _ _ r f _ (hr.kept kz) (hf.kept kz) hc hn).mono ?_
    rintro e u1 ⟨rfl, k1⟩
    rw [d1]
    have L0 := L0.kept k1
    have L1 := L1.kept k1
    have kz := kz.trans k1
    clear p0 p1 p2 q0 q1 q2 pl ql
    have p0 := L0.cell 0 rfl
    have q0 := L1.cell 0 rfl
    have p1 := L0.cell 1 rfl
    have q1 := L1.cell 1 rfl
    have p2 := L0.cell 2 rfl
    have q2 := L1.cell 2 rfl
    have pl := L0.lt
    have ql := L1.lt
    dsimp only
    repeat (first | go_values | go_skip | go_guarded | go_step | go_upon)
    go_at_call 48
    refine (slholds _ _ r f _ (hr.kept kz) (hf.kept kz) (of_dec d1)).mono ?_
    rintro e u2 ⟨rfl, k2⟩
    dsimp only
    repeat (first | go_values | go_skip | go_guarded | go_step | go_upon)
    go_ret
    refine ⟨ret_bool ?_, kz.trans k2⟩
    rw [dec_and, d1]
    rfl

end Go.Proofs.Ytopakblckajdmaa
