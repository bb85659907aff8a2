/-
  PoseAt of the specification.
-/
import Derived.Test.YtpnplfngglfpoaaPoseP11
import Derived.Test.YtpnplfngglfpoaaValS11
import Derived.Test.YtpnplfngglfpoaaGoodS11
namespace Go.Proofs.Ytpnplfngglfpoaa
open Go.ChangeShapes Go.WideShapes Go.ChangeAt Go.RowKit

set_option maxRecDepth 100000
set_option linter.unusedVariables false

set_option maxHeartbeats 8000000 in
theorem spose (c : ClipD) (fr : Int) (v : Value) (w : World) (hv : ClipAt w v c) (hl : clipCost c ≤ 1048576) :
    Calls Try.prog 31 #[v, .int .i64 fr] w fun e w' => ∃ v', e = .returned (.tuple #[v', .bool (poseA c fr).2]) ∧ NumO w' w.heap.size w'.heap.size v' (poseA c fr).1 ∧ Kept w w' := by
  obtain ⟨a1, p1, a2, p2, hfm⟩ := hv.form
  subst hfm
  have HG0 : Hid (∀ W, Kept w W → Calls Try.prog 17 #[.agg #[.int .i64 c.1, .slice a1 c.2.1.length p1, .slice a2 c.2.2.length p2]] W fun e w' => e = .returned (.bool (decide (ClipP c))) ∧ Kept W w') := fun W k => sgoodclip c _ W (hv.kept k) hl
  obtain ⟨hr, hr2⟩ := hv.row
  have NO : Hid (¬ (ClipP c ∧ (0 ≤ fr ∧ fr < c.1)) → poseA c fr = ([], false)) := fun h => pose_no h
  have YES : Hid (ClipP c ∧ (0 ≤ fr ∧ fr < c.1) → poseA c fr = (c.2.1.map (fun (d : TrackD) => atK d.2 fr), true)) := fun h => pose_yes h
  generalize poseA c fr = R at *
  obtain ⟨x, ts, ms⟩ := c
  dsimp only at *
  clear hv
  rcases (Classical.em (ClipP (x, ts, ms))).symm with h1 | h1
  · have HG : Hid (∀ W, Kept w W → Calls Try.prog 17 #[.agg #[.int .i64 x, .slice a1 ts.length p1, .slice a2 ms.length p2]] W fun e w' => e = .returned (.bool false) ∧ Kept W w') := by
      have := HG0
      rw [decide_eq_false h1] at this
      exact this
    have hR := NO.out (fun h => h1 h.1)
    subst hR
    clear h1 NO YES HG0
    go_enter Try.func31, Try.ntmps31
    repeat (first | (go_at_call 17; refine (HG.out _ ((But.refl _ _ _).alloc _)).mono ?_; rintro e w1 ⟨rfl, k1⟩; have f0 := Kept.cell k1 ((Loc.new w [.int .i64 x, .slice a1 ts.length p1, .slice a2 ms.length p2] 44).cell 0 rfl); have f1 := Kept.cell k1 ((Loc.new w [.int .i64 x, .slice a1 ts.length p1, .slice a2 ms.length p2] 44).cell 1 rfl); dsimp only) | go_values | go_skip | go_guarded | go_step | go_upon)
    go_ret2
    exact ⟨_, rfl, num_nil _ _ _, ((But.refl _ _ _).alloc _).trans k1⟩
  have HG : Hid (∀ W, Kept w W → Calls Try.prog 17 #[.agg #[.int .i64 x, .slice a1 ts.length p1, .slice a2 ms.length p2]] W fun e w' => e = .returned (.bool true) ∧ Kept W w') := by
    have := HG0
    rw [decide_eq_true h1] at this
    exact this
  have hx1 : 1 ≤ x := h1.1.1
  have hx2 : x ≤ 60 := h1.1.2
  have hts : ts.length ≤ 8 := h1.2.1.1
  have HC : Hid (ClipP (x, ts, ms)) := h1
  clear HG0 h1
  have ex : IntKind.i64.wrap (x - 1) = x - 1 := IntWalk.i64_in _ (by omega)
  rcases (Decidable.em (0 ≤ fr ∧ fr ≤ x - 1)).symm with h2 | h2
  · have dm : decide (0 ≤ fr ∧ fr ≤ x - 1) = false := decide_eq_false h2
    have hR := NO.out (fun h => h2 (by omega))
    subst hR
    go_enter Try.func31, Try.ntmps31
    repeat (first | (go_at_call 17; refine (HG.out _ ((But.refl _ _ _).alloc _)).mono ?_; rintro e w1 ⟨rfl, k1⟩; have f0 := Kept.cell k1 ((Loc.new w [.int .i64 x, .slice a1 ts.length p1, .slice a2 ms.length p2] 44).cell 0 rfl); have f1 := Kept.cell k1 ((Loc.new w [.int .i64 x, .slice a1 ts.length p1, .slice a2 ms.length p2] 44).cell 1 rfl); dsimp only) | (go_at_call 52; refine (sIn _ _ _ _).mono ?_; rw [dm]; rintro e w3 ⟨rfl, hw3⟩; rw [hw3]; clear hw3; dsimp only) | go_values | go_skip | go_guarded | go_step | go_upon)
    go_ret2
    exact ⟨_, rfl, num_nil _ _ _, ((But.refl _ _ _).alloc _).trans k1⟩
  have dm : decide (0 ≤ fr ∧ fr ≤ x - 1) = true := decide_eq_true h2
  have hR := YES.out ⟨HC.out, by omega⟩
  subst hR
  have HT : Hid (TrsAt w (.slice a1 ts.length p1) ts) := hr
  have HKS : Hid (∀ (j : Nat) (d : TrackD), ts[j]? = some d → KeysP x d.2) := fun j d hd => (HC.out.2.1.2 j (List.getElem?_eq_some_iff.1 hd).1 d hd).2.1
  obtain ⟨i0, hi0, hz0, hz1, hz2⟩ := info_parts infoNum
  clear hr hr2 NO YES
  go_enter Try.func31, Try.ntmps31
  repeat (first | (go_at_call 17; refine (HG.out _ ((But.refl _ _ _).alloc _)).mono ?_; rintro e w1 ⟨rfl, k1⟩; have f0 := Kept.cell k1 ((Loc.new w [.int .i64 x, .slice a1 ts.length p1, .slice a2 ms.length p2] 44).cell 0 rfl); have f1 := Kept.cell k1 ((Loc.new w [.int .i64 x, .slice a1 ts.length p1, .slice a2 ms.length p2] 44).cell 1 rfl); dsimp only) | (go_at_call 52; refine (sIn _ _ _ _).mono ?_; rw [dm]; rintro e w3 ⟨rfl, hw3⟩; rw [hw3]; clear hw3; dsimp only) | go_values | go_skip | go_guarded | go_step | go_upon)
  have K1 : Hid (Kept w w1) := ((But.refl _ _ _).alloc _).trans k1
  clear k1 f0 f1 HG
  go_loopw [6, 23] (fun s i wr => ∃ (j : Nat) (ao' : Option Addr) (c' : Nat), j ≤ ts.length ∧ s = .slice ao' j c' ∧ i = .int .i64 j ∧ wr.ownsRow w.heap.size 3 1 (.slice ao' j c') j (((ts.take j).map fun (d : TrackD) => atK d.2 fr).flatMap numC) ∧ Kept w wr) (fun _ i _ => ts.length - (intOf i).toNat)
  case atStart => exact ⟨0, none, 0, by omega, rfl, rfl, World.ownsRow_nil _ _ _ _, K1.out⟩
  case round =>
    obtain ⟨j, ao', c', hj, rfl, rfl, hown, hkp⟩ := hrel
    have HO : Hid (wr.ownsRow w.heap.size 3 1 (.slice ao' j c') j (((ts.take j).map fun (d : TrackD) => atK d.2 fr).flatMap numC)) := hown
    have HK : Hid (Kept w wr) := hkp
    have hwz := hkp.size
    by_cases hlt : j < ts.length
    · obtain ⟨d, hd⟩ : ∃ p, ts[j]? = some p := ⟨_, List.getElem?_eq_getElem hlt⟩
      obtain ⟨bb, o, cap', sv, e, c0, c1, hka⟩ := (HT.out.kept hkp).get hd
      cases e
      have HN : Hid ((ts.take (j + 1)).map (fun (d : TrackD) => atK d.2 fr) = (ts.take j).map (fun (d : TrackD) => atK d.2 fr) ++ [atK d.2 fr]) := map_snoc hd
      have hks := HKS.out j d hd
      obtain ⟨nm, ks⟩ := d
      dsimp only at c0 c1 hka HN hks
      obtain ⟨a3, p3, hsl⟩ := row_nil hka
      subst hsl
      have hgw : bb < wr.heap.size := World.block_lt_of_cell? _ _ c0
      have AT : Hid (∀ W, Kept wr W → Calls Try.prog 59 #[.slice a3 ks.length p3, .int .i64 fr] W fun e w' => e = .returned (.int .i64 (atK ks fr)) ∧ Kept W w') := fun W k => sat x ks fr _ W (hka.kept k) hks hx2 (by omega)
      generalize atK ks fr = Z at *
      clear hown hkp hd hka hks
      repeat (first
        | (go_at_call 59; refine (AT.out _ ((But.refl _ _ _).alloc _)).mono ?_; rintro e w3 ⟨rfl, k3⟩; have KR : Hid (Kept wr w3) := ((But.refl _ _ _).alloc _).trans k3; have hz3 := KR.out.size; clear k3; dsimp only)
        | (at_builtin
           refine wpList_append_own _ rfl _ _ 23 rfl w.heap.size 3 i0 (.int .i64 0) 1 8 Try.underlying23 hi0 hz0 hz1 hz2 rfl (by decide) _ _ _ rfl (own_kept HO.out (KR.out.alloc _)) ⟨w3.heap.size, 0, none⟩ 1 1 [.int .i64 Z] rfl rfl (news1 (Loc.new w3 [.int .i64 Z] 3)) (by simp [Value.oneCell']) (by unfold maxLen; omega) (by omega) (by simp; omega) ?_
           intro v' w9 hown' hgrow _
           obtain ⟨ao5, cap5, hf5, _⟩ := own_form hown'
           subst hf5
           have HK5 : Hid (Kept w w9) := ((HK.out.trans KR.out).alloc _).grown hgrow (by intro x hx; have := own_lt HO.out hx; omega)
           have HW : Hid (w9.ownsRow w.heap.size 3 1 (.slice ao5 (j + 1) cap5) (j + 1) (((ts.take j).map fun (d : TrackD) => atK d.2 fr).flatMap numC ++ [.int .i64 Z])) := hown'
           clear hgrow hown')
        | go_values | go_skip | go_guarded | go_step | go_upon)
      refine ⟨⟨j + 1, ao5, cap5, hlt, rfl, by go_num, ?_, HK5.out⟩, by simp [intOf]; omega⟩
      rw [HN.out, List.flatMap_append]
      simpa [numC] using HW.out
    · have hje : j = ts.length := by omega
      subst hje
      repeat (first | go_values | go_skip | go_guarded | go_step | go_upon)
      go_ret2
      refine ⟨_, rfl, ?_, hkp⟩
      have := RowO.top HO.out
      rw [List.take_length] at this
      unfold NumO
      rw [List.length_map]
      exact this

end Go.Proofs.Ytpnplfngglfpoaa
