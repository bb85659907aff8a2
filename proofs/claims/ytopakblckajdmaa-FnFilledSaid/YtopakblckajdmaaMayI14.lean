/-
  The sorts that could stand at a place, in the program.
-/
import Derived.Test.YtopakblckajdmaaAutoI14
namespace Go.Proofs.Ytopakblckajdmaa
open Go.ChangeShapes Go.WideShapes Go.ChangeAt Go.RowKit

set_option maxRecDepth 100000
set_option linter.unusedVariables false
/-- The first of the numbers for which p holds. -/
def cutL (p : Nat → Bool) (k : Nat) : List Int := ((List.range k).filter p).map (fun c : Nat => (c : Int))
theorem cutL_yes {p : Nat → Bool} {k : Nat} (h : p k = true) : cutL p (k + 1) = cutL p k ++ [(k : Int)] := by
  unfold cutL
  rw [List.range_succ, List.filter_append, List.map_append]
  simp [h]
theorem cutL_no {p : Nat → Bool} {k : Nat} (h : p k = false) : cutL p (k + 1) = cutL p k := by
  unfold cutL
  rw [List.range_succ, List.filter_append, List.map_append]
  simp [h]
theorem cutL_len (p : Nat → Bool) (k : Nat) : (cutL p k).length ≤ k := by
  unfold cutL
  rw [List.length_map]
  exact Nat.le_trans (List.length_filter_le _ _) (by simp)
noncomputable def fitB (r : RulesD) (f : FieldD) (n : Int) (t : Nat) : Bool := dec (FitP r f n t)
/-- The sorts that could stand at a place. -/
noncomputable def mayL (r : RulesD) (f : FieldD) (n : Int) : List Int := cutL (fitB r f n) r.1.toNat
def MayP (r : RulesD) (f : FieldD) (n : Int) : Prop := GoodP r f ∧ (0 ≤ n ∧ n < f.2.2.length)
noncomputable def mayA (r : RulesD) (f : FieldD) (n : Int) : List Int × Bool := if dec (MayP r f n) then (mayL r f n, true) else ([], false)
theorem may_no {r : RulesD} {f : FieldD} {n : Int} (h : ¬ MayP r f n) : mayA r f n = ([], false) := by unfold mayA; rw [dec_no h]; rfl
theorem may_yes {r : RulesD} {f : FieldD} {n : Int} (h : MayP r f n) : mayA r f n = (mayL r f n, true) := by unfold mayA; rw [dec_yes h]; rfl
theorem mayA_len (r : RulesD) (f : FieldD) (n : Int) : (mayA r f n).1.length ≤ 6 := by
  by_cases h : MayP r f n
  · rw [may_yes h]
    have := cutL_len (fitB r f n) r.1.toNat
    have := h.1.1.1
    show (cutL _ _).length ≤ 6
    omega
  · rw [may_no h]; simp
theorem no_num (w : World) (lo hi : Nat) : NumO w lo hi (.slice none 0 0) [] := ⟨World.ownsRow_nil _ _ _ _, fun g hg => by cases hg⟩

set_option maxHeartbeats 8000000 in
theorem isorts (tv : Value) (r : RulesD) (f : FieldD) (n : Int) (w : World) (hv : TilAt w tv r f) (hg : GoodP r f) (h0 : 0 ≤ n) (h1 : n < f.2.2.length) :
    Calls Try.prog 61 #[tv, .func (.func 59) #[] #[], .int .i64 n] w fun e w' => ∃ v', e = .returned v' ∧ NumO w' w.heap.size w'.heap.size v' (mayL r f n) ∧ Kept w w' := by
  obtain ⟨a1, c1, a2, c2, ao, cap, hfm, r1, r2, hf⟩ := hv
  have hv : TilAt w (.agg #[.int .i64 r.1, .slice a1 r.2.1.length c1, .slice a2 r.2.2.length c2, .int .i64 f.1, .int .i64 f.2.1, .slice ao f.2.2.length cap]) r f := ⟨a1, c1, a2, c2, ao, cap, rfl, r1, r2, hf⟩
  subst hfm
  have HG : Hid (GoodP r f) := hg
  have hs := hg.1.1
  have hlen := good_len hg
  clear hg r1 r2 hf
  obtain ⟨i0, hi0, hz0, hz1, hz2⟩ := info_parts info_num
  go_enter Try.func61, Try.ntmps61
  go_upto_region 1 with fail
  obtain ⟨W, hW⟩ : ∃ x, x = w.alloc (.cells #[.int .i64 r.1, .slice a1 r.2.1.length c1, .slice a2 r.2.2.length c2, .int .i64 f.1, .int .i64 f.2.1, .slice ao f.2.2.length cap] 66) := ⟨_, rfl⟩
  have kz : Kept w W := by rw [hW]; exact (But.refl _ _ _).alloc _
  have L0 : Loc W w.heap.size [.int .i64 r.1, .slice a1 r.2.1.length c1, .slice a2 r.2.2.length c2, .int .i64 f.1, .int .i64 f.2.1, .slice ao f.2.2.length cap] := by rw [hW]; exact Loc.new _ _ _
  rw [← hW]
  clear hW
  have p0 := L0.cell 0 rfl
  repeat (first | go_values | go_skip | go_guarded | go_step | go_upon)
  clear p0
  go_loopw [7, 11] (fun x i wr => ∃ (k : Nat) (ao' : Option Addr) (c' m : Nat), (k : Int) ≤ r.1 ∧ i = .int .i64 k ∧ Hid (m = (cutL (fitB r f n) k).length) ∧ x = .slice ao' m c' ∧ Hid (wr.ownsRow W.heap.size 3 1 (.slice ao' m c') m ((cutL (fitB r f n) k).flatMap numC)) ∧ Hid (Kept W wr)) (fun _ i _ => (r.1).toNat - (intOf i).toNat)
  case atStart => exact ⟨0, none, 0, 0, by omega, rfl, rfl, rfl, World.ownsRow_nil _ _ _ _, But.refl _ _ _⟩
  case round =>
    obtain ⟨k, ao', c', m, hk, rfl, HM, rfl, HO, HK⟩ := hrel
    have p0 := (L0.kept HK.out).cell 0 rfl
    have p1 := (L0.kept HK.out).cell 1 rfl
    have p2 := (L0.kept HK.out).cell 2 rfl
    have p3 := (L0.kept HK.out).cell 3 rfl
    have p4 := (L0.kept HK.out).cell 4 rfl
    have p5 := (L0.kept HK.out).cell 5 rfl
    by_cases hlt : (k : Int) < r.1
    · have hltd : decide ((k : Int) < r.1) = true := decide_eq_true hlt
      have hml := cutL_len (fitB r f n) k
      rw [← HM.out] at hml
      have hwz := HK.out.size
      cases q : (fitB r f n) k with
      | true =>
        have HP : Hid ((fitB r f n) k = true) := q
        repeat (first | (go_at_call 59; refine (imay _ r f n k _ (hv.kept (kz.trans HK.out)) HG.out h0 h1 ⟨by omega, hlt⟩).mono ?_; rintro e y1 ⟨rfl, ky⟩; rw [show dec (FitP r f n (k : Int)) = fitB r f n k from rfl, q]; dsimp only) | (at_builtin; refine forgetL (fun W => W = y1.alloc (.cells #[.int .i64 (k : Int)] 3)) rfl ?_) | go_values | go_skip | go_guarded | go_step | go_upon)
        intro WA hWA
        rw [hWA]
        clear hWA WA
        have hyz := ky.size
        refine wpList_append_own _ rfl _ _ 26 rfl W.heap.size 3 i0 (.int .i64 0) 1 8 Try.underlying26 hi0 hz0 hz1 hz2 rfl (by decide) _ _ _ rfl (own_kept HO.out (ky.alloc _)) ⟨y1.heap.size, 0, none⟩ 1 1 [.int .i64 (k : Int)] rfl rfl (news1 (Loc.new y1 [.int .i64 (k : Int)] 3)) (by simp [Value.oneCell']) (by unfold maxLen; omega) (by omega) (by simp; omega) ?_
        intro v' w2 hown' hgrow _
        obtain ⟨ao5, cap5, hf5, _⟩ := own_form hown'
        subst hf5
        have HK5 : Hid (Kept W w2) := ((HK.out.trans ky).alloc _).grown hgrow (by intro x hx; have := own_lt HO.out hx; omega)
        have HW : Hid (w2.ownsRow W.heap.size 3 1 (.slice ao5 (m + 1) cap5) (m + 1) ((cutL (fitB r f n) k).flatMap numC ++ [.int .i64 (k : Int)])) := hown'
        clear hgrow hown'
        repeat (first | go_values | go_skip | go_guarded | go_step | go_upon)
        refine ⟨⟨k + 1, ao5, cap5, m + 1, by omega, by go_num, ?_, rfl, ?_, HK5⟩, by simp [intOf]; omega⟩
        · show m + 1 = _
          rw [cutL_yes HP.out, HM.out]; simp
        · show World.ownsRow _ _ _ _ _ _ _
          rw [cutL_yes HP.out, List.flatMap_append]
          exact HW.out
      | false =>
        have HP : Hid ((fitB r f n) k = false) := q
        repeat (first | (go_at_call 59; refine (imay _ r f n k _ (hv.kept (kz.trans HK.out)) HG.out h0 h1 ⟨by omega, hlt⟩).mono ?_; rintro e y1 ⟨rfl, ky⟩; rw [show dec (FitP r f n (k : Int)) = fitB r f n k from rfl, q]; dsimp only) | go_values | go_skip | go_guarded | go_step | go_upon)
        refine ⟨⟨k + 1, ao', c', m, by omega, by go_num, ?_, rfl, ?_, HK.out.trans ky⟩, by simp [intOf]; omega⟩
        · show m = _
          rw [cutL_no HP.out]; exact HM.out
        · show World.ownsRow _ _ _ _ _ _ _
          rw [cutL_no HP.out]; exact own_kept HO.out ky
    · have hltd : decide ((k : Int) < r.1) = false := decide_eq_false hlt
      have hke : k = (r.1).toNat := by omega
      have HKE : Hid (k = (r.1).toNat) := hke
      clear hke
      repeat (first | go_values | go_skip | go_guarded | go_step | go_upon)
      go_returns
      refine ⟨_, rfl, ?_, kz.trans HK.out⟩
      have hm := HM.out
      have h2 : NumO wr W.heap.size wr.heap.size (.slice ao' m c') (cutL (fitB r f n) k) := by unfold NumO; rw [← hm]; exact RowO.top HO.out
      have hz := kz.size
      rw [HKE.out] at h2
      exact NumO.mono h2 hz (Nat.le_refl _)

end Go.Proofs.Ytopakblckajdmaa
