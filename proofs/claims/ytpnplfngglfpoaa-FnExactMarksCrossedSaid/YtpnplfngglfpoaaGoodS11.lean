/-
  Whether a clip is good, as the specification says it.
-/
import Derived.Test.YtpnplfngglfpoaaGoodC11
namespace Go.Proofs.Ytpnplfngglfpoaa
open Go.ChangeShapes Go.WideShapes Go.ChangeAt Go.RowKit

set_option maxRecDepth 100000
set_option linter.unusedVariables false

theorem trk_next {b : Int} {ds : List TrackD} {j j' : Nat} {nm g : ByteArray} {ks gk : List KeyD} (hp : ds[j]? = some (nm, ks)) (hj : j = j' + 1) (hq : ds[j']? = some (g, gk)) (hn : nameB nm = true) (hk : KeysP b ks) : TrkOk b ds j ↔ Op.bytesLess g.toList nm.toList = true := by
  constructor
  · intro h
    exact (h _ hp).2.2 (g, gk) (by omega) (by rw [hj]; simpa using hq)
  · intro h y hy
    rw [hp] at hy
    cases hy
    refine ⟨hn, hk, fun a _ ha' => ?_⟩
    rw [hj] at ha'
    simp only [Nat.add_sub_cancel] at ha'
    rw [hq] at ha'
    cases ha'
    exact h
theorem mrk_next {b : Int} {ds : List MarkD} {j j' : Nat} {nm g : ByteArray} {f e : Int} (hp : ds[j]? = some (f, nm)) (hj : j = j' + 1) (hq : ds[j']? = some (e, g)) (hn : nameB nm = true) (hf : 0 ≤ f ∧ f < b) : MrkOk b ds j ↔ (e < f ∨ e = f ∧ Op.bytesLess g.toList nm.toList = true) := by
  constructor
  · intro h
    exact (h _ hp).2.2 (e, g) (by omega) (by rw [hj]; simpa using hq)
  · intro h y hy
    rw [hp] at hy
    cases hy
    refine ⟨hf, hn, fun a _ ha' => ?_⟩
    rw [hj] at ha'
    simp only [Nat.add_sub_cancel] at ha'
    rw [hq] at ha'
    cases ha'
    exact h
set_option maxHeartbeats 8000000 in
theorem sgoodclip (c : ClipD) (v : Value) (w : World) (hv : ClipAt w v c) (hl : clipCost c ≤ 1048576) :
    Calls Try.prog 17 #[v] w fun e w' => e = .returned (.bool (decide (ClipP c))) ∧ Kept w w' := by
  obtain ⟨a1, p1, a2, p2, hfm⟩ := hv.form
  subst hfm
  obtain ⟨hr, hr2⟩ := hv.row
  have t1 := clip_trs hl
  have t2 := clip_mrs hl
  have NO : Hid (¬ ((1 ≤ c.1 ∧ c.1 ≤ 60) ∧ TrksP c.1 c.2.1 ∧ MrksP c.1 c.2.2) → decide (ClipP c) = false) := fun h => decide_eq_false h
  have YES : Hid (((1 ≤ c.1 ∧ c.1 ≤ 60) ∧ TrksP c.1 c.2.1 ∧ MrksP c.1 c.2.2) → decide (ClipP c) = true) := fun h => decide_eq_true h
  generalize decide (ClipP c) = R at *
  obtain ⟨x, ts, ms⟩ := c
  dsimp only at *
  clear hv
  rcases (Decidable.em (1 ≤ x ∧ x ≤ 60)).symm with h1 | h1
  · have di : decide (1 ≤ x ∧ x ≤ 60) = false := decide_eq_false h1
    rw [NO.out (fun h => h1 h.1)]
    go_enter Try.func17, Try.ntmps17
    repeat (first | (go_at_call 52; refine (sIn _ _ _ _).mono ?_; rw [di]; rintro e w3 ⟨rfl, hw3⟩; rw [hw3]; clear hw3; dsimp only) | go_values | go_skip | go_guarded | go_step | go_upon)
    go_ret
    exact ⟨rfl, (But.refl _ _ _).alloc _⟩
  have di : decide (1 ≤ x ∧ x ≤ 60) = true := decide_eq_true h1
  by_cases h2 : 8 < ts.length
  · have d2 : decide (8 < (ts.length : Int)) = true := by simp; omega
    rw [NO.out (fun h => by have := h.2.1.1; omega)]
    go_enter Try.func17, Try.ntmps17
    repeat (first | (go_at_call 52; refine (sIn _ _ _ _).mono ?_; rw [di]; rintro e w3 ⟨rfl, hw3⟩; rw [hw3]; clear hw3; dsimp only) | go_values | go_skip | go_guarded | go_step | go_upon)
    go_ret
    exact ⟨rfl, (But.refl _ _ _).alloc _⟩
  have d2 : decide (8 < (ts.length : Int)) = false := by simp; omega
  by_cases h3 : 20 < ms.length
  · have d3 : decide (20 < (ms.length : Int)) = true := by simp; omega
    rw [NO.out (fun h => by have := h.2.2.1; omega)]
    go_enter Try.func17, Try.ntmps17
    repeat (first | (go_at_call 52; refine (sIn _ _ _ _).mono ?_; rw [di]; rintro e w3 ⟨rfl, hw3⟩; rw [hw3]; clear hw3; dsimp only) | go_values | go_skip | go_guarded | go_step | go_upon)
    go_ret
    exact ⟨rfl, (But.refl _ _ _).alloc _⟩
  have d3 : decide (20 < (ms.length : Int)) = false := by simp; omega
  obtain ⟨W0, hW0⟩ : ∃ W, W = w.alloc (.cells #[.int .i64 x, .slice a1 ts.length p1, .slice a2 ms.length p2] 44) := ⟨_, rfl⟩
  have K0 : Hid (Kept w W0) := by rw [hW0]; exact (But.refl _ _ _).alloc _
  have L0 : Loc W0 w.heap.size [.int .i64 x, .slice a1 ts.length p1, .slice a2 ms.length p2] := by rw [hW0]; exact Loc.new w _ _
  have HW0 : Hid (W0 = w.alloc (.cells #[.int .i64 x, .slice a1 ts.length p1, .slice a2 ms.length p2] 44)) := hW0
  have y0 := L0.cell 0 rfl
  have y1 := L0.cell 1 rfl
  have y2 := L0.cell 2 rfl
  have hT : Hid (TrsAt W0 (.slice a1 ts.length p1) ts) := hr.kept K0.out
  have hM : Hid (MarkAt W0 (.slice a2 ms.length p2) ms) := hr2.kept K0.out
  have hlt0 := L0.lt
  have HS1 : Hid (∀ d ∈ ts, d.1.size ≤ 1048576 ∧ d.2.length ≤ 1048576) := t1.2
  have HS2 : Hid (∀ d ∈ ms, d.2.size ≤ 1048576) := t2.2
  clear hW0 L0 hr hr2 t1 t2 hl
  go_enter Try.func17, Try.ntmps17
  repeat (first | (go_at_call 52; refine (sIn _ _ _ _).mono ?_; rw [di]; rintro e w3 ⟨rfl, hw3⟩; rw [hw3]; clear hw3 w3; dsimp only) | go_values | go_skip | go_guarded | go_step | go_upon)
  rw [← HW0.out]
  clear HW0
  go_loopw [26] (fun i wr => ∃ (k : Nat), k ≤ ts.length ∧ i = .int .i64 k ∧ Hid (∀ j, j < k → TrkOk x ts j) ∧ Kept W0 wr) (fun i _ => ts.length - (intOf i).toNat)
  case atStart => exact ⟨0, by omega, rfl, (fun j hj => by omega : ∀ j, j < 0 → TrkOk x ts j), But.refl _ _ _⟩
  case round =>
    obtain ⟨j, hk, rfl, HB, hkp⟩ := hrel
    have hwz := hkp.size
    by_cases hlt : j < ts.length
    · obtain ⟨p, hp⟩ : ∃ p, ts[j]? = some p := ⟨_, List.getElem?_eq_getElem hlt⟩
      have hv1 := hT.out.kept hkp
      obtain ⟨bb, o, cap', sv, e, c0, c1, hka⟩ := hv1.get hp
      cases e
      have hsz := HS1.out p (List.mem_of_getElem? hp)
      obtain ⟨nm, ks⟩ := p
      dsimp only at c0 c1 hka hsz
      obtain ⟨a3, p3, hsl⟩ := row_nil hka
      subst hsl
      have HKA : Hid (KeyAt wr (.slice a3 ks.length p3) ks) := hka
      have HK : Hid (Kept w wr) := K0.out.trans hkp
      have HK0 : Hid (Kept W0 wr) := hkp
      have HP : Hid (ts[j]? = some (nm, ks)) := hp
      have z0 := Kept.cell hkp y0
      have z1 := Kept.cell hkp y1
      have hgw : bb < wr.heap.size := World.block_lt_of_cell? _ _ c0
      have hgz : w.heap.size < wr.heap.size := by omega
      have NJ : Hid (¬ TrkOk x ts j → R = false) := fun h => NO.out (fun h' => h (h'.2.1.2 j hlt))
      have arm1 : ∀ (q : Bool), nameB nm = q → ∀ W, Calls Try.prog 62 #[.string nm] W fun e w' => e = .returned (.bool q) ∧ w' = W := fun q hq W => by rw [← hq]; exact sname nm W hsz.1
      have SKA : Hid (∀ W, Kept wr W → Calls Try.prog 57 #[.slice a3 ks.length p3, .int .i64 x] W fun e w' => e = .returned (.bool (decide (KeysP x ks))) ∧ Kept W w') := fun W k => skeys x ks _ W (HKA.out.kept k) (by omega) (by omega) (by omega)
      clear hka hkp y0 y1 y2
      cases q1 : nameB nm with
      | false =>
        have A1 : Hid (∀ W, Calls Try.prog 62 #[.string nm] W fun e w' => e = .returned (.bool false) ∧ w' = W) := arm1 _ q1
        clear arm1 hp hv1
        have hR := NJ.out (fun h => by have := (h _ HP.out).1; dsimp only at this; rw [q1] at this; exact absurd this (by simp))
        subst hR
        repeat (first | go_values | go_skip | go_guarded | go_step | go_upon)
        refine wp_region_kept (by kernel_rfl) (by kernel_rfl) ?_
        have hcc := @KW.cell_eq
        repeat (go_big_quiet_step (first | (go_at_call 62; exact kw_same (A1.out _))))
        refine wpQuiet_nil ?_
        rintro _ ⟨⟨w5, k5⟩, rfl⟩
        clear hcc
        repeat (first | go_values | go_skip | go_guarded | go_step | go_upon)
        go_ret
        exact ⟨rfl, (HK.out.alloc _).trans k5⟩
      | true =>
        have A1 : Hid (∀ W, Calls Try.prog 62 #[.string nm] W fun e w' => e = .returned (.bool true) ∧ w' = W) := arm1 _ q1
        clear arm1
        rcases (Classical.em (KeysP x ks)).symm with q4 | q4
        · rw [decide_eq_false q4] at SKA
          clear hp hv1
          have hR := NJ.out (fun h => q4 (h _ HP.out).2.1)
          subst hR
          repeat (first | go_values | go_skip | go_guarded | go_step | go_upon)
          refine wp_region_kept (by kernel_rfl) (by kernel_rfl) ?_
          have hcc := @KW.cell_eq
          repeat (go_big_quiet_step (first | (go_at_call 62; exact kw_same (A1.out _)) | (go_at_call 57; exact kw_call (SKA.out _ (But.trans ((But.refl _ _ _).alloc _) (KW.k _))))))
          refine wpQuiet_nil ?_
          rintro _ ⟨⟨w5, k5⟩, rfl⟩
          clear hcc
          repeat (first | go_values | go_skip | go_guarded | go_step | go_upon)
          go_ret
          exact ⟨rfl, (HK.out.alloc _).trans k5⟩
        rw [decide_eq_true q4] at SKA
        by_cases h0 : 0 < j
        · obtain ⟨j', hj'⟩ : ∃ j', j = j' + 1 := ⟨j - 1, by omega⟩
          obtain ⟨a, hq⟩ : ∃ b, ts[j']? = some b := ⟨_, List.getElem?_eq_getElem (by omega)⟩
          obtain ⟨bb2, o2, cap2, sv2, e2, r0, r1, _⟩ := hv1.get hq
          cases e2
          obtain ⟨g, gk⟩ := a
          dsimp only at r0 r1
          have dj : decide (0 < j) = true := decide_eq_true h0
          have ej : IntKind.i64.wrap ((j : Int) - 1) = (j' : Int) := by rw [IntWalk.i64_in _ (by omega)]; omega
          have y1' : (0 : Int) ≤ (j' : Int) := by omega
          have y2' : (j' : Int) < (ts.length : Int) := by omega
          have HO : Hid (TrkOk x ts j ↔ Op.bytesLess g.toList nm.toList = true) := trk_next hp hj' hq q1 q4
          clear hj' hp hq hv1 r1
          cases q3 : Op.bytesLess g.toList nm.toList with
          | false =>
            have hR := NJ.out (fun h => by have := HO.out.1 h; rw [q3] at this; exact absurd this (by simp))
            subst hR
            repeat (first | go_values | go_skip | go_guarded | go_step | go_upon)
            refine wp_region_kept (by kernel_rfl) (by kernel_rfl) ?_
            have hcc := @KW.cell_eq
            repeat (go_big_quiet_step (first | (go_at_call 62; exact kw_same (A1.out _)) | (go_at_call 57; exact kw_call (SKA.out _ (But.trans ((But.refl _ _ _).alloc _) (KW.k _))))))
            refine wpQuiet_nil ?_
            rintro _ ⟨⟨w5, k5⟩, rfl⟩
            clear hcc
            repeat (first | go_values | go_skip | go_guarded | go_step | go_upon)
            go_ret
            exact ⟨rfl, (HK.out.alloc _).trans k5⟩
          | true =>
            repeat (first | go_values | go_skip | go_guarded | go_step | go_upon)
            refine wp_region_kept (by kernel_rfl) (by kernel_rfl) ?_
            have hcc := @KW.cell_eq
            repeat (go_big_quiet_step (first | (go_at_call 62; exact kw_same (A1.out _)) | (go_at_call 57; exact kw_call (SKA.out _ (But.trans ((But.refl _ _ _).alloc _) (KW.k _))))))
            refine wpQuiet_nil ?_
            rintro _ ⟨⟨w5, k5⟩, rfl⟩
            clear hcc
            repeat (first | go_values | go_skip | go_guarded | go_step | go_upon)
            clear dj
            have I : ∀ i, i < j + 1 → TrkOk x ts i := all_more HB.out (HO.out.2 q3)
            exact ⟨⟨j + 1, hlt, by go_num, I, (HK0.out.alloc _).trans k5⟩, by simp [intOf]; omega⟩
        · have dj : decide (0 < j) = false := decide_eq_false h0
          have hok : TrkOk x ts j := fun y hy => by
            rw [hp] at hy
            cases hy
            exact ⟨q1, q4, fun a h => by omega⟩
          have HO : Hid (TrkOk x ts j) := hok
          clear hok h0 hp hv1
          repeat (first | go_values | go_skip | go_guarded | go_step | go_upon)
          refine wp_region_kept (by kernel_rfl) (by kernel_rfl) ?_
          have hcc := @KW.cell_eq
          repeat (go_big_quiet_step (first | (go_at_call 62; exact kw_same (A1.out _)) | (go_at_call 57; exact kw_call (SKA.out _ (But.trans ((But.refl _ _ _).alloc _) (KW.k _))))))
          refine wpQuiet_nil ?_
          rintro _ ⟨⟨w5, k5⟩, rfl⟩
          clear hcc
          repeat (first | go_values | go_skip | go_guarded | go_step | go_upon)
          clear dj
          have I : ∀ i, i < j + 1 → TrkOk x ts i := all_more HB.out HO.out
          exact ⟨⟨j + 1, hlt, by go_num, I, (HK0.out.alloc _).trans k5⟩, by simp [intOf]; omega⟩
    · have hke : j = ts.length := by omega
      subst hke
      have z0 := Kept.cell hkp y0
      have z2 := Kept.cell hkp y2
      have HT : Hid (TrksP x ts) := ⟨by omega, HB.out⟩
      repeat (first | go_values | go_skip | go_guarded | go_step | go_upon)
      go_loopw [63] (fun i wr2 => ∃ (k : Nat), k ≤ ms.length ∧ i = .int .i64 k ∧ Hid (∀ j, j < k → MrkOk x ms j) ∧ Kept W0 wr2) (fun i _ => ms.length - (intOf i).toNat)
      case atStart => exact ⟨0, by omega, rfl, (fun j hj => by omega : ∀ j, j < 0 → MrkOk x ms j), hkp⟩
      case round =>
        clear z0 z2 hkp hwz
        rename World => wr2
        obtain ⟨j, hk, rfl, HB, hkp⟩ := hrel
        have hwz := hkp.size
        by_cases hlt : j < ms.length
        · obtain ⟨p, hp⟩ : ∃ p, ms[j]? = some p := ⟨_, List.getElem?_eq_getElem hlt⟩
          have hv1 := hM.out.kept hkp
          obtain ⟨bb, o, cap', e, c0, c1⟩ := mark_get hv1 hp
          cases e
          have hsz := HS2.out p (List.mem_of_getElem? hp)
          obtain ⟨f, nm⟩ := p
          dsimp only at c0 c1 hsz
          have HK : Hid (Kept w wr2) := K0.out.trans hkp
          have HK0 : Hid (Kept W0 wr2) := hkp
          have HP : Hid (ms[j]? = some (f, nm)) := hp
          have z0 := Kept.cell hkp y0
          have z2 := Kept.cell hkp y2
          have hgw : bb < wr2.heap.size := World.block_lt_of_cell? _ _ c0
          have hgz : w.heap.size < wr2.heap.size := by omega
          have NJ : Hid (¬ MrkOk x ms j → R = false) := fun h => NO.out (fun h' => h (h'.2.2.2 j hlt))
          have ex : IntKind.i64.wrap (x - 1) = x - 1 := IntWalk.i64_in _ (by omega)
          clear hkp y0 y1 y2
          rcases (Decidable.em (0 ≤ f ∧ f ≤ x - 1)).symm with h4 | h4
          · have dm : decide (0 ≤ f ∧ f ≤ x - 1) = false := decide_eq_false h4
            have hR := NJ.out (fun h => h4 (by have := (h _ HP.out).1; dsimp only at this; omega))
            subst hR
            clear hp hv1
            repeat (first | (go_at_call 52; refine (sIn _ _ _ _).mono ?_; rw [dm]; rintro e w3 ⟨rfl, hw3⟩; rw [hw3]; clear hw3; dsimp only) | go_values | go_skip | go_guarded | go_step | go_upon)
            go_ret
            exact ⟨rfl, HK.out.alloc _⟩
          have dm : decide (0 ≤ f ∧ f ≤ x - 1) = true := decide_eq_true h4
          have arm1 : ∀ (q : Bool), nameB nm = q → ∀ W, Calls Try.prog 62 #[.string nm] W fun e w' => e = .returned (.bool q) ∧ w' = W := fun q hq W => by rw [← hq]; exact sname nm W hsz
          cases q1 : nameB nm with
          | false =>
            have A1 : Hid (∀ W, Calls Try.prog 62 #[.string nm] W fun e w' => e = .returned (.bool false) ∧ w' = W) := arm1 _ q1
            have hR := NJ.out (fun h => by have := (h _ HP.out).2.1; dsimp only at this; rw [q1] at this; exact absurd this (by simp))
            subst hR
            clear arm1 hp hv1
            repeat (first | (go_at_call 52; refine (sIn _ _ _ _).mono ?_; rw [dm]; rintro e w3 ⟨rfl, hw3⟩; rw [hw3]; clear hw3; dsimp only) | (go_at_call 62; refine (A1.out _).mono ?_; rintro e w3 ⟨rfl, hw3⟩; rw [hw3]; clear hw3; dsimp only) | go_values | go_skip | go_guarded | go_step | go_upon)
            go_ret
            exact ⟨rfl, HK.out.alloc _⟩
          | true =>
            have A1 : Hid (∀ W, Calls Try.prog 62 #[.string nm] W fun e w' => e = .returned (.bool true) ∧ w' = W) := arm1 _ q1
            clear arm1
            by_cases h0 : 0 < j
            · obtain ⟨j', hj'⟩ : ∃ j', j = j' + 1 := ⟨j - 1, by omega⟩
              obtain ⟨a, hq⟩ : ∃ b, ms[j']? = some b := ⟨_, List.getElem?_eq_getElem (by omega)⟩
              obtain ⟨bb2, o2, cap2, e2, r0, r1⟩ := mark_get hv1 hq
              cases e2
              obtain ⟨g, gn⟩ := a
              dsimp only at r0 r1
              have dj : decide (0 < j) = true := decide_eq_true h0
              have ej : IntKind.i64.wrap ((j : Int) - 1) = (j' : Int) := by rw [IntWalk.i64_in _ (by omega)]; omega
              have y1' : (0 : Int) ≤ (j' : Int) := by omega
              have y2' : (j' : Int) < (ms.length : Int) := by omega
              have HO : Hid (MrkOk x ms j ↔ (g < f ∨ g = f ∧ Op.bytesLess gn.toList nm.toList = true)) := mrk_next hp hj' hq q1 (by omega)
              clear hj' hp hq hv1
              have hways : (f < g) ∨ (g < f) ∨ (g = f ∧ Op.bytesLess gn.toList nm.toList = true) ∨ (g = f ∧ Op.bytesLess gn.toList nm.toList = false) := by
                cases Op.bytesLess gn.toList nm.toList <;> simp <;> omega
              rcases hways with hw | hw | ⟨hw, q3⟩ | ⟨hw, q3⟩
              · have e1 : decide (f < g) = true := decide_eq_true hw
                have hR := NJ.out (fun h => by have := HO.out.1 h; omega)
                subst hR
                repeat (first | (go_at_call 52; refine (sIn _ _ _ _).mono ?_; rw [dm]; rintro e w3 ⟨rfl, hw3⟩; rw [hw3]; clear hw3; dsimp only) | (go_at_call 62; refine (A1.out _).mono ?_; rintro e w3 ⟨rfl, hw3⟩; rw [hw3]; clear hw3; dsimp only) | go_values | go_skip | go_guarded | go_step | go_upon)
                repeat (first | go_values | go_skip | go_guarded | go_step | go_upon)
                refine wp_region_kept (by kernel_rfl) (by kernel_rfl) ?_
                have hcc := @KW.cell_eq
                repeat (go_big_quiet_step (first | fail))
                refine wpQuiet_nil ?_
                rintro _ ⟨⟨w5, k5⟩, rfl⟩
                clear hcc
                repeat (first | go_values | go_skip | go_guarded | go_step | go_upon)
                go_ret
                exact ⟨rfl, (HK.out.alloc _).trans k5⟩
              · have e1 : decide (f < g) = false := decide_eq_false (by omega)
                have e2 : (g == f) = false := beq_eq_false_iff_ne.2 (by omega)
                repeat (first | (go_at_call 52; refine (sIn _ _ _ _).mono ?_; rw [dm]; rintro e w3 ⟨rfl, hw3⟩; rw [hw3]; clear hw3; dsimp only) | (go_at_call 62; refine (A1.out _).mono ?_; rintro e w3 ⟨rfl, hw3⟩; rw [hw3]; clear hw3; dsimp only) | go_values | go_skip | go_guarded | go_step | go_upon)
                repeat (first | go_values | go_skip | go_guarded | go_step | go_upon)
                refine wp_region_kept (by kernel_rfl) (by kernel_rfl) ?_
                have hcc := @KW.cell_eq
                repeat (go_big_quiet_step (first | fail))
                refine wpQuiet_nil ?_
                rintro _ ⟨⟨w5, k5⟩, rfl⟩
                clear hcc
                repeat (first | go_values | go_skip | go_guarded | go_step | go_upon)
                clear dj
                have I : ∀ i, i < j + 1 → MrkOk x ms i := all_more HB.out (HO.out.2 (.inl hw))
                exact ⟨⟨j + 1, hlt, by go_num, I, (HK0.out.alloc _).trans k5⟩, by simp [intOf]; omega⟩
              · have e1 : decide (f < g) = false := decide_eq_false (by omega)
                have e2 : (g == f) = true := beq_iff_eq.2 hw
                have HW9 : Hid (g = f) := hw
                clear hw
                repeat (first | (go_at_call 52; refine (sIn _ _ _ _).mono ?_; rw [dm]; rintro e w3 ⟨rfl, hw3⟩; rw [hw3]; clear hw3; dsimp only) | (go_at_call 62; refine (A1.out _).mono ?_; rintro e w3 ⟨rfl, hw3⟩; rw [hw3]; clear hw3; dsimp only) | go_values | go_skip | go_guarded | go_step | go_upon)
                repeat (first | go_values | go_skip | go_guarded | go_step | go_upon)
                refine wp_region_kept (by kernel_rfl) (by kernel_rfl) ?_
                have hcc := @KW.cell_eq
                repeat (go_big_quiet_step (first | fail))
                refine wpQuiet_nil ?_
                rintro _ ⟨⟨w5, k5⟩, rfl⟩
                clear hcc
                repeat (first | go_values | go_skip | go_guarded | go_step | go_upon)
                clear dj
                have I : ∀ i, i < j + 1 → MrkOk x ms i := all_more HB.out (HO.out.2 (.inr ⟨HW9.out, q3⟩))
                exact ⟨⟨j + 1, hlt, by go_num, I, (HK0.out.alloc _).trans k5⟩, by simp [intOf]; omega⟩
              · have e1 : decide (f < g) = false := decide_eq_false (by omega)
                have e2 : (g == f) = true := beq_iff_eq.2 hw
                have hR := NJ.out (fun h => by rcases HO.out.1 h with h9 | ⟨_, h9⟩; (omega); (rw [q3] at h9; exact absurd h9 (by simp)))
                subst hR
                clear hw
                repeat (first | (go_at_call 52; refine (sIn _ _ _ _).mono ?_; rw [dm]; rintro e w3 ⟨rfl, hw3⟩; rw [hw3]; clear hw3; dsimp only) | (go_at_call 62; refine (A1.out _).mono ?_; rintro e w3 ⟨rfl, hw3⟩; rw [hw3]; clear hw3; dsimp only) | go_values | go_skip | go_guarded | go_step | go_upon)
                repeat (first | go_values | go_skip | go_guarded | go_step | go_upon)
                refine wp_region_kept (by kernel_rfl) (by kernel_rfl) ?_
                have hcc := @KW.cell_eq
                repeat (go_big_quiet_step (first | fail))
                refine wpQuiet_nil ?_
                rintro _ ⟨⟨w5, k5⟩, rfl⟩
                clear hcc
                repeat (first | go_values | go_skip | go_guarded | go_step | go_upon)
                go_ret
                exact ⟨rfl, (HK.out.alloc _).trans k5⟩
            · have dj : decide (0 < j) = false := decide_eq_false h0
              have hok : MrkOk x ms j := fun y hy => by
                rw [hp] at hy
                cases hy
                exact ⟨by dsimp only; omega, q1, fun a h => by omega⟩
              have HO : Hid (MrkOk x ms j) := hok
              clear hok h0 hp hv1
              repeat (first | (go_at_call 52; refine (sIn _ _ _ _).mono ?_; rw [dm]; rintro e w3 ⟨rfl, hw3⟩; rw [hw3]; clear hw3; dsimp only) | (go_at_call 62; refine (A1.out _).mono ?_; rintro e w3 ⟨rfl, hw3⟩; rw [hw3]; clear hw3; dsimp only) | go_values | go_skip | go_guarded | go_step | go_upon)
              repeat (first | go_values | go_skip | go_guarded | go_step | go_upon)
              refine wp_region_kept (by kernel_rfl) (by kernel_rfl) ?_
              have hcc := @KW.cell_eq
              repeat (go_big_quiet_step (first | fail))
              refine wpQuiet_nil ?_
              rintro _ ⟨⟨w5, k5⟩, rfl⟩
              clear hcc
              repeat (first | go_values | go_skip | go_guarded | go_step | go_upon)
              clear dj
              have I : ∀ i, i < j + 1 → MrkOk x ms i := all_more HB.out HO.out
              exact ⟨⟨j + 1, hlt, by go_num, I, (HK0.out.alloc _).trans k5⟩, by simp [intOf]; omega⟩
        · have hke : j = ms.length := by omega
          subst hke
          have hR := YES.out ⟨h1, HT.out, by omega, HB.out⟩
          subst hR
          repeat (first | go_values | go_skip | go_guarded | go_step | go_upon)
          go_ret
          exact ⟨rfl, K0.out.trans hkp⟩


end Go.Proofs.Ytpnplfngglfpoaa
