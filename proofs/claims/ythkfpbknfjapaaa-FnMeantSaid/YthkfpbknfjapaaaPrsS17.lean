/-
  Presses as they must be, in the specification.
-/
import Derived.Test.YthkfpbknfjapaaaPure17
import Derived.Test.YthkfpbknfjapaaaQuiet
namespace Go.Proofs.Ythkfpbknfjapaaa
open Go.ChangeShapes Go.WideShapes Go.ChangeAt Go.RowKit

set_option maxRecDepth 100000
set_option linter.unusedVariables false

set_option maxHeartbeats 8000000 in
theorem sprss (l : List PressD) (v : Value) (w : World) (hv : PressAt w v l) (hn : l.length ≤ 1048576) :
    Calls Try.prog 51 #[v] w fun e w' => e = .returned (.bool (dec (PrssP l))) ∧ Kept w w' := by
  obtain ⟨ao, cap, hsl⟩ := row_nil hv
  subst hsl
  have NO : Hid (¬ PrssP l → dec (PrssP l) = false) := fun h => dec_no h
  have YES : Hid (PrssP l → dec (PrssP l) = true) := fun h => dec_yes h
  generalize dec (PrssP l) = R at *
  by_cases h0 : 200 < l.length
  · rw [NO.out (fun h => by have := h.1; omega)]
    go_enter Try.func51, Try.ntmps51
    go_wp2
    go_ret
    exact ⟨rfl, But.refl _ _ _⟩
  go_enter Try.func51, Try.ntmps51
  go_wp2
  go_loopw [10] (fun i wr => ∃ (k : Nat), k ≤ l.length ∧ i = .int .i64 k ∧ Hid (∀ j, j < k → PrsOk l j) ∧ Kept w wr) (fun i _ => l.length - (intOf i).toNat)
  case atStart => exact ⟨0, by omega, rfl, (fun j hj => by omega : ∀ j, j < 0 → PrsOk l j), But.refl _ _ _⟩
  case round =>
    obtain ⟨j, hk, rfl, HB, hkp⟩ := hrel
    by_cases hlt : j < l.length
    · obtain ⟨d, hd⟩ : ∃ p, l[j]? = some p := ⟨_, List.getElem?_eq_getElem hlt⟩
      have hv1 := hv.kept hkp
      obtain ⟨b, o, cap', ee, c0, c1, c2⟩ := press_get hv1 hd
      cases ee
      skip
      have NJ : Hid (¬ PrsOk l j → R = false) := fun h => NO.out (fun h' => h (h'.2 j hlt))
      have HP : Hid (l[j]? = some d) := hd
      have HK : Hid (Kept w wr) := hkp
      have hgw : b < wr.heap.size := World.block_lt_of_cell? _ _ c0
      obtain ⟨t0, ky, on⟩ := d
      dsimp only at c0 c1 c2
      clear hkp hv
      rcases (Decidable.em (0 ≤ t0 ∧ t0 ≤ 100000)).symm with h1 | h1
      · have d1 : decide (0 ≤ t0 ∧ t0 ≤ 100000) = false := decide_eq_false h1
        have AT : Hid (∀ W, Calls Try.prog 71 #[.int .i64 t0, .int .i64 0, .int .i64 100000] W fun e w' => e = .returned (.bool false) ∧ w' = W) := fun W => by have := sInG t0 0 100000 W; rw [d1] at this; exact this
        have hR := NJ.out (fun h => h1 (h _ HP.out).1)
        subst hR
        clear hd hv1
        repeat (first | go_values | go_skip | go_guarded | go_step | go_upon)
        refine wp_region_kept (by kernel_rfl) (by kernel_rfl) ?_
        have hcc := @KW.cell_eq
        repeat (go_big_quiet_step (first | (go_at_call 71; with_reducible exact kw_same (AT.out _))))
        refine wpQuiet_nil ?_
        rintro w5 ⟨⟨w8, k5⟩, h9⟩
        change w5 = w8 at h9
        subst h9
        clear hcc
        repeat (first | go_values | go_skip | go_guarded | go_step | go_upon)
        go_ret
        exact ⟨rfl, (HK.out.alloc _).trans k5⟩
      have d1 : decide (0 ≤ t0 ∧ t0 ≤ 100000) = true := decide_eq_true h1
      have AT : Hid (∀ W, Calls Try.prog 71 #[.int .i64 t0, .int .i64 0, .int .i64 100000] W fun e w' => e = .returned (.bool true) ∧ w' = W) := fun W => by have := sInG t0 0 100000 W; rw [d1] at this; exact this
      rcases (Decidable.em (0 ≤ ky ∧ ky ≤ 99)).symm with h2 | h2
      · have d2 : decide (0 ≤ ky ∧ ky ≤ 99) = false := decide_eq_false h2
        have AK : Hid (∀ W, Calls Try.prog 71 #[.int .i64 ky, .int .i64 0, .int .i64 99] W fun e w' => e = .returned (.bool false) ∧ w' = W) := fun W => by have := sInG ky 0 99 W; rw [d2] at this; exact this
        have hR := NJ.out (fun h => h2 (h _ HP.out).2.1)
        subst hR
        clear hd hv1
        repeat (first | go_values | go_skip | go_guarded | go_step | go_upon)
        refine wp_region_kept (by kernel_rfl) (by kernel_rfl) ?_
        have hcc := @KW.cell_eq
        repeat (go_big_quiet_step (first | (go_at_call 71; with_reducible exact kw_same (AT.out _)) | (go_at_call 71; with_reducible exact kw_same (AK.out _))))
        refine wpQuiet_nil ?_
        rintro w5 ⟨⟨w8, k5⟩, h9⟩
        change w5 = w8 at h9
        subst h9
        clear hcc
        repeat (first | go_values | go_skip | go_guarded | go_step | go_upon)
        go_ret
        exact ⟨rfl, (HK.out.alloc _).trans k5⟩
      have d2 : decide (0 ≤ ky ∧ ky ≤ 99) = true := decide_eq_true h2
      have AK : Hid (∀ W, Calls Try.prog 71 #[.int .i64 ky, .int .i64 0, .int .i64 99] W fun e w' => e = .returned (.bool true) ∧ w' = W) := fun W => by have := sInG ky 0 99 W; rw [d2] at this; exact this
      by_cases h0 : 0 < j
      · obtain ⟨j', hj'⟩ : ∃ j', j = j' + 1 := ⟨j - 1, by omega⟩
        obtain ⟨a, hq⟩ : ∃ b, l[j']? = some b := ⟨_, List.getElem?_eq_getElem (by omega)⟩
        obtain ⟨bb2, o2, cap2, e2, r0, r1, r2⟩ := press_get hv1 hq
        cases e2
        have HO : Hid (PrsOk l j ↔ a.1 ≤ t0) := prs_next hd hj' hq h1 h2
        obtain ⟨g, gn, go⟩ := a
        dsimp only at r0 r1 r2
        have dj : decide (0 < j) = true := decide_eq_true h0
        have ej : IntKind.i64.wrap ((j : Int) - 1) = (j' : Int) := by rw [IntWalk.i64_in _ (by omega)]; omega
        have y1' : (0 : Int) ≤ (j' : Int) := by omega
        have y2' : (j' : Int) < (l.length : Int) := by omega
        clear hj' hd hq hv1 r1 r2
        by_cases q3 : g ≤ t0
        · have d9 : decide (t0 < g) = false := decide_eq_false (by omega)
          repeat (first | go_values | go_skip | go_guarded | go_step | go_upon)
          refine wp_region_kept (by kernel_rfl) (by kernel_rfl) ?_
          have hcc := @KW.cell_eq
          repeat (go_big_quiet_step (first | (go_at_call 71; with_reducible exact kw_same (AT.out _)) | (go_at_call 71; with_reducible exact kw_same (AK.out _))))
          refine wpQuiet_nil ?_
          rintro w5 ⟨⟨w8, k5⟩, h9⟩
          change w5 = w8 at h9
          subst h9
          clear hcc
          repeat (first | go_values | go_skip | go_guarded | go_step | go_upon)
          clear dj
          have I : ∀ i, i < j + 1 → PrsOk l i := all_more HB.out (HO.out.2 q3)
          exact ⟨⟨j + 1, hlt, by go_num, I, (HK.out.alloc _).trans k5⟩, by simp [intOf]; omega⟩
        · have d9 : decide (t0 < g) = true := decide_eq_true (by omega)
          have hR := NJ.out (fun h => q3 (HO.out.1 h))
          subst hR
          repeat (first | go_values | go_skip | go_guarded | go_step | go_upon)
          refine wp_region_kept (by kernel_rfl) (by kernel_rfl) ?_
          have hcc := @KW.cell_eq
          repeat (go_big_quiet_step (first | (go_at_call 71; with_reducible exact kw_same (AT.out _)) | (go_at_call 71; with_reducible exact kw_same (AK.out _))))
          refine wpQuiet_nil ?_
          rintro w5 ⟨⟨w8, k5⟩, h9⟩
          change w5 = w8 at h9
          subst h9
          clear hcc
          repeat (first | go_values | go_skip | go_guarded | go_step | go_upon)
          go_ret
          exact ⟨rfl, (HK.out.alloc _).trans k5⟩
      · have dj : decide (0 < j) = false := decide_eq_false h0
        have hok : PrsOk l j := fun y hy => by
          rw [hd] at hy
          cases hy
          exact ⟨h1, h2, fun a h => by omega⟩
        have HO : Hid (PrsOk l j) := hok
        clear hok h0 hd hv1
        repeat (first | go_values | go_skip | go_guarded | go_step | go_upon)
        refine wp_region_kept (by kernel_rfl) (by kernel_rfl) ?_
        have hcc := @KW.cell_eq
        repeat (go_big_quiet_step (first | (go_at_call 71; with_reducible exact kw_same (AT.out _)) | (go_at_call 71; with_reducible exact kw_same (AK.out _))))
        refine wpQuiet_nil ?_
        rintro w5 ⟨⟨w8, k5⟩, h9⟩
        change w5 = w8 at h9
        subst h9
        clear hcc
        repeat (first | go_values | go_skip | go_guarded | go_step | go_upon)
        clear dj
        have I : ∀ i, i < j + 1 → PrsOk l i := all_more HB.out HO.out
        exact ⟨⟨j + 1, hlt, by go_num, I, (HK.out.alloc _).trans k5⟩, by simp [intOf]; omega⟩
    · have hke : j = l.length := by omega
      subst hke
      have hR := YES.out ⟨by omega, HB.out⟩
      subst hR
      go_wp2
      go_ret
      exact ⟨rfl, hkp⟩

end Go.Proofs.Ythkfpbknfjapaaa
