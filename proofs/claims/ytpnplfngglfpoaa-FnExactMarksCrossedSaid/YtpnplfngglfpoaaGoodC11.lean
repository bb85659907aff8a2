/-
  Whether a clip is good, as the program says it.
-/
import Derived.Test.YtpnplfngglfpoaaTracks11
import Derived.Test.YtpnplfngglfpoaaMarks11
namespace Go.Proofs.Ytpnplfngglfpoaa
open Go.ChangeShapes Go.WideShapes Go.ChangeAt Go.RowKit

set_option maxRecDepth 100000
set_option linter.unusedVariables false

theorem clip_trs {c : ClipD} (h : clipCost c ≤ 1048576) : c.2.1.length ≤ 1048576 ∧ ∀ d ∈ c.2.1, d.1.size ≤ 1048576 ∧ d.2.length ≤ 1048576 := by
  refine ⟨by unfold clipCost trsCost at h; omega, fun d hd => ?_⟩
  have := trs_one hd
  unfold clipCost at h
  unfold trsOne at this
  omega
theorem clip_mrs {c : ClipD} (h : clipCost c ≤ 1048576) : c.2.2.length ≤ 1048576 ∧ ∀ d ∈ c.2.2, d.2.size ≤ 1048576 := by
  refine ⟨by unfold clipCost markCost at h; omega, fun d hd => ?_⟩
  obtain ⟨i, hi⟩ := List.mem_iff_getElem?.1 hd
  have := markSum_le hi
  unfold clipCost markCost at h
  omega
set_option maxHeartbeats 2000000 in
theorem igoodclip (c : ClipD) (v : Value) (w : World) (hv : ClipAt w v c) (hl : clipCost c ≤ 1048576) :
    Calls Try.prog 19 #[v] w fun e w' => e = .returned (.bool (decide (ClipP c))) ∧ Kept w w' := by
  obtain ⟨a1, p1, a2, p2, hfm⟩ := hv.form
  subst hfm
  obtain ⟨hr, hr2⟩ := hv.row
  have t1 := clip_trs hl
  have t2 := clip_mrs hl
  have NO : Hid (¬ ((1 ≤ c.1 ∧ c.1 ≤ 60) ∧ TrksP c.1 c.2.1 ∧ MrksP c.1 c.2.2) → decide (ClipP c) = false) := fun h => decide_eq_false h
  have YES : Hid (((1 ≤ c.1 ∧ c.1 ≤ 60) ∧ TrksP c.1 c.2.1 ∧ MrksP c.1 c.2.2) → decide (ClipP c) = true) := fun h => decide_eq_true h
  generalize decide (ClipP c) = R at *
  obtain ⟨x, ts, ms⟩ := c
  dsimp only at *
  clear hv
  by_cases h1 : x < 1
  · have d1 : decide (x < 1) = true := decide_eq_true h1
    rw [NO.out (fun h => by omega)]
    go_enter Try.func19, Try.ntmps19
    go_wp2
    go_ret
    exact ⟨rfl, (But.refl _ _ _).alloc _⟩
  have d1 : decide (x < 1) = false := decide_eq_false h1
  by_cases h2 : 60 < x
  · have d2 : decide (60 < x) = true := decide_eq_true h2
    rw [NO.out (fun h => by omega)]
    go_enter Try.func19, Try.ntmps19
    go_wp2
    go_ret
    exact ⟨rfl, (But.refl _ _ _).alloc _⟩
  have d2 : decide (60 < x) = false := decide_eq_false h2
  have IT : Hid (∀ W, Kept w W → Calls Try.prog 65 #[.slice a1 ts.length p1, .int .i64 x] W fun e w' => e = .returned (.bool (decide (TrksP x ts))) ∧ Kept W w') := fun W k => itracks x ts _ W (hr.kept k) (by omega) t1.1 t1.2
  have IM : Hid (∀ W, Kept w W → Calls Try.prog 66 #[.slice a2 ms.length p2, .int .i64 x] W fun e w' => e = .returned (.bool (decide (MrksP x ms))) ∧ Kept W w') := fun W k => imarks x ms _ W (hr2.kept k) t2.1 t2.2
  clear hr hr2 t1 t2 hl
  rcases (Classical.em (TrksP x ts)).symm with h3 | h3
  · rw [NO.out (fun h => h3 h.2.1)]
    rw [decide_eq_false h3] at IT
    clear h3 NO YES
    go_enter Try.func19, Try.ntmps19
    repeat (first | (go_at_call 65; refine (IT.out _ ((But.refl _ _ _).alloc _)).mono ?_; rintro e w3 ⟨rfl, k3⟩; have f2 := Kept.cell k3 ((Loc.new w [.int .i64 x, .slice a1 ts.length p1, .slice a2 ms.length p2] 44).cell 2 rfl); have f0 := Kept.cell k3 ((Loc.new w [.int .i64 x, .slice a1 ts.length p1, .slice a2 ms.length p2] 44).cell 0 rfl); dsimp only) | go_values | go_skip | go_guarded | go_step | go_upon)
    go_ret
    exact ⟨rfl, ((But.refl _ _ _).alloc _).trans k3⟩
  rw [decide_eq_true h3] at IT
  rcases (Classical.em (MrksP x ms)).symm with h4 | h4
  · rw [NO.out (fun h => h4 h.2.2)]
    rw [decide_eq_false h4] at IM
    clear h3 h4 NO YES
    go_enter Try.func19, Try.ntmps19
    repeat (first | (go_at_call 65; refine (IT.out _ ((But.refl _ _ _).alloc _)).mono ?_; rintro e w3 ⟨rfl, k3⟩; have f2 := Kept.cell k3 ((Loc.new w [.int .i64 x, .slice a1 ts.length p1, .slice a2 ms.length p2] 44).cell 2 rfl); have f0 := Kept.cell k3 ((Loc.new w [.int .i64 x, .slice a1 ts.length p1, .slice a2 ms.length p2] 44).cell 0 rfl); dsimp only) | (go_at_call 66; refine (IM.out _ (But.trans ((But.refl _ _ _).alloc _) k3)).mono ?_; rintro e w4 ⟨rfl, k4⟩; dsimp only) | go_values | go_skip | go_guarded | go_step | go_upon)
    go_ret
    exact ⟨rfl, (((But.refl _ _ _).alloc _).trans k3).trans k4⟩
  · rw [YES.out ⟨by omega, h3, h4⟩]
    rw [decide_eq_true h4] at IM
    clear h3 h4 NO YES
    go_enter Try.func19, Try.ntmps19
    repeat (first | (go_at_call 65; refine (IT.out _ ((But.refl _ _ _).alloc _)).mono ?_; rintro e w3 ⟨rfl, k3⟩; have f2 := Kept.cell k3 ((Loc.new w [.int .i64 x, .slice a1 ts.length p1, .slice a2 ms.length p2] 44).cell 2 rfl); have f0 := Kept.cell k3 ((Loc.new w [.int .i64 x, .slice a1 ts.length p1, .slice a2 ms.length p2] 44).cell 0 rfl); dsimp only) | (go_at_call 66; refine (IM.out _ (But.trans ((But.refl _ _ _).alloc _) k3)).mono ?_; rintro e w4 ⟨rfl, k4⟩; dsimp only) | go_values | go_skip | go_guarded | go_step | go_upon)
    go_ret
    exact ⟨rfl, (((But.refl _ _ _).alloc _).trans k3).trans k4⟩

end Go.Proofs.Ytpnplfngglfpoaa
