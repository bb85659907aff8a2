/-
  Whether marks are good, as the program says it.
-/
import Derived.Test.YtpnplfngglfpoaaCmpM11
namespace Go.Proofs.Ytpnplfngglfpoaa
open Go.ChangeShapes Go.WideShapes Go.ChangeAt Go.RowKit

set_option maxRecDepth 100000
set_option linter.unusedVariables false

set_option maxHeartbeats 4000000 in
theorem imarks (b : Int) (ds : List MarkD) (v : Value) (w : World) (hv : MarkAt w v ds) (hn : ds.length ≤ 1048576) (hs : ∀ d ∈ ds, d.2.size ≤ 1048576) :
    Calls Try.prog 66 #[v, .int .i64 b] w fun e w' => e = .returned (.bool (decide (MrksP b ds))) ∧ Kept w w' := by
  obtain ⟨ao, cap, hsl⟩ := row_nil hv
  subst hsl
  by_cases hc : 20 < ds.length
  · have d : decide (20 < (ds.length : Int)) = true := by simp; omega
    go_enter Try.func66, Try.ntmps66
    go_wp2
    go_ret
    exact ⟨ret_boolG (decide_eq_false (fun h => by have := h.1; omega)).symm, But.refl _ _ _⟩
  have d : decide (20 < (ds.length : Int)) = false := by simp; omega
  go_enter Try.func66, Try.ntmps66
  go_wp2
  go_loopw [12] (fun i wr => ∃ (k : Nat), k ≤ ds.length ∧ i = .int .i64 k ∧ Hid (∀ j, j < k → MrkOk b ds j) ∧ Kept w wr) (fun i _ => ds.length - (intOf i).toNat)
  case atStart => exact ⟨0, by omega, rfl, (fun j hj => by omega : ∀ j, j < 0 → MrkOk b ds j), But.refl _ _ _⟩
  case round =>
    obtain ⟨j, hk, rfl, HB, hkp⟩ := hrel
    by_cases hlt : j < ds.length
    · obtain ⟨p, hp⟩ : ∃ p, ds[j]? = some p := ⟨_, List.getElem?_eq_getElem hlt⟩
      have hv1 := hv.kept hkp
      obtain ⟨bb, o, cap', e, c0, c1⟩ := mark_get hv1 hp
      cases e
      have hsz := hs p (List.mem_of_getElem? hp)
      obtain ⟨f, nm⟩ := p
      dsimp only at c0 c1 hsz
      have HK : Hid (Kept w wr) := hkp
      have HP : Hid (ds[j]? = some (f, nm)) := hp
      have NO : Hid (¬ MrkOk b ds j → decide (MrksP b ds) = false) := fun h => decide_eq_false (fun h' => h (h'.2 j hlt))
      have hgw : bb < wr.heap.size := World.block_lt_of_cell? _ _ c0
      by_cases h1 : f < 0
      · have d1 : decide (f < 0) = true := decide_eq_true h1
        clear hp hkp hv1
        go_wp2
        go_ret
        exact ⟨ret_boolG (NO.out (fun h => by have := (h _ HP.out).1.1; dsimp only at this; omega)).symm, HK.out.alloc _⟩
      have d1 : decide (f < 0) = false := decide_eq_false h1
      by_cases h2 : b ≤ f
      · have d2 : decide (b ≤ f) = true := decide_eq_true h2
        clear hp hkp hv1
        go_wp2
        go_ret
        exact ⟨ret_boolG (NO.out (fun h => by have := (h _ HP.out).1.2; dsimp only at this; omega)).symm, HK.out.alloc _⟩
      have d2 : decide (b ≤ f) = false := decide_eq_false h2
      have arm1 : ∀ (x : Bool), nameB nm = x → ∀ W, Calls Try.prog 93 #[.string nm] W fun e w' => e = .returned (.bool x) ∧ w' = W := fun x hx W => by rw [← hx]; exact iname nm W hsz
      cases q1 : nameB nm with
      | false =>
        have A1 : Hid (∀ W, Calls Try.prog 93 #[.string nm] W fun e w' => e = .returned (.bool false) ∧ w' = W) := arm1 _ q1
        clear arm1 hp hkp hv1
        repeat (first | (go_at_call 93; refine (A1.out _).mono ?_; rintro e w3 ⟨rfl, hw3⟩; rw [hw3]; clear hw3; dsimp only) | go_values | go_skip | go_guarded | go_step | go_upon)
        go_ret
        exact ⟨ret_boolG (NO.out (fun h => by have := (h _ HP.out).2.1; dsimp only at this; rw [q1] at this; exact absurd this (by simp))).symm, HK.out.alloc _⟩
      | true =>
        have A1 : Hid (∀ W, Calls Try.prog 93 #[.string nm] W fun e w' => e = .returned (.bool true) ∧ w' = W) := arm1 _ q1
        clear arm1
        by_cases h0 : 0 < j
        · obtain ⟨j', hj'⟩ : ∃ j', j = j' + 1 := ⟨j - 1, by omega⟩
          obtain ⟨a, hq⟩ : ∃ b, ds[j']? = some b := ⟨_, List.getElem?_eq_getElem (by omega)⟩
          obtain ⟨bb2, o2, cap2, e2, r0, r1⟩ := mark_get hv1 hq
          cases e2
          obtain ⟨g, gn⟩ := a
          dsimp only at r0 r1
          have dj : decide (0 < j) = true := decide_eq_true h0
          have ej : IntKind.i64.wrap ((j : Int) - 1) = (j' : Int) := by rw [IntWalk.i64_in _ (by omega)]; omega
          have z1 : (0 : Int) ≤ (j' : Int) := by omega
          have z2 : (j' : Int) < (ds.length : Int) := by omega
          have hoff : MrkOk b ds j ↔ orI (cmpI g f) (cmpB gn nm) < 0 := by
            rw [orM_lt]
            constructor
            · intro h
              exact (h _ hp).2.2 (g, gn) h0 (by rw [hj']; simpa using hq)
            · intro h y hy
              rw [hp] at hy
              cases hy
              refine ⟨⟨by dsimp only; omega, by dsimp only; omega⟩, q1, fun a _ ha' => ?_⟩
              rw [hj'] at ha'
              simp only [Nat.add_sub_cancel] at ha'
              rw [hq] at ha'
              cases ha'
              exact h
          have HO : Hid (MrkOk b ds j ↔ orI (cmpI g f) (cmpB gn nm) < 0) := hoff
          have CMA : Hid (∀ W, Calls Try.prog 94 #[.agg #[.int .i64 g, .string gn], .agg #[.int .i64 f, .string nm]] W fun e w' => e = .returned (.int .i64 (orI (cmpI g f) (cmpB gn nm))) ∧ Kept W w') := fun W => compareMarks g f gn nm W
          generalize orI (cmpI g f) (cmpB gn nm) = Z at *
          clear hoff hj' hp hq hkp hv1 hv
          by_cases hz : Z < 0
          · have dz : decide (0 ≤ Z) = false := decide_eq_false (by omega)
            repeat (first | (go_at_call 93; refine (A1.out _).mono ?_; rintro e w3 ⟨rfl, hw3⟩; rw [hw3]; clear hw3; dsimp only) | go_values | go_skip | go_guarded | go_step | go_upon)
            repeat (first | go_values | go_skip | go_guarded | go_step | go_upon)
            refine wp_region_kept (by kernel_rfl) (by kernel_rfl) ?_
            have hcc := @KW.cell_eq
            repeat (go_big_quiet_step (first | (go_at_call 94; exact kw_call (CMA.out _))))
            refine wpQuiet_nil ?_
            rintro _ ⟨⟨w5, k5⟩, rfl⟩
            clear hcc
            repeat (first | go_values | go_skip | go_guarded | go_step | go_upon)
            clear dj
            have I : ∀ i, i < j + 1 → MrkOk b ds i := all_more HB.out (HO.out.2 hz)
            exact ⟨⟨j + 1, hlt, by go_num, I, (HK.out.alloc _).trans k5⟩, by simp [intOf]; omega⟩
          · have dz : decide (0 ≤ Z) = true := decide_eq_true (by omega)
            repeat (first | (go_at_call 93; refine (A1.out _).mono ?_; rintro e w3 ⟨rfl, hw3⟩; rw [hw3]; clear hw3; dsimp only) | go_values | go_skip | go_guarded | go_step | go_upon)
            repeat (first | go_values | go_skip | go_guarded | go_step | go_upon)
            refine wp_region_kept (by kernel_rfl) (by kernel_rfl) ?_
            have hcc := @KW.cell_eq
            repeat (go_big_quiet_step (first | (go_at_call 94; exact kw_call (CMA.out _))))
            refine wpQuiet_nil ?_
            rintro _ ⟨⟨w5, k5⟩, rfl⟩
            clear hcc
            repeat (first | go_values | go_skip | go_guarded | go_step | go_upon)
            go_ret
            exact ⟨ret_boolG (NO.out (fun h => hz (HO.out.1 h))).symm, (HK.out.alloc _).trans k5⟩
        · have dj : decide (0 < j) = false := decide_eq_false h0
          have hok : MrkOk b ds j := fun y hy => by
            rw [hp] at hy
            cases hy
            exact ⟨⟨by dsimp only; omega, by dsimp only; omega⟩, q1, fun a h => by omega⟩
          have HO : Hid (MrkOk b ds j) := hok
          clear hok h0 hp hkp hv1 hv
          repeat (first | (go_at_call 93; refine (A1.out _).mono ?_; rintro e w3 ⟨rfl, hw3⟩; rw [hw3]; clear hw3; dsimp only) | go_values | go_skip | go_guarded | go_step | go_upon)
          repeat (first | go_values | go_skip | go_guarded | go_step | go_upon)
          refine wp_region_kept (by kernel_rfl) (by kernel_rfl) ?_
          have hcc := @KW.cell_eq
          repeat (go_big_quiet_step (first | fail))
          refine wpQuiet_nil ?_
          rintro _ ⟨⟨w5, k5⟩, rfl⟩
          clear hcc
          repeat (first | go_values | go_skip | go_guarded | go_step | go_upon)
          clear dj
          have I : ∀ i, i < j + 1 → MrkOk b ds i := all_more HB.out HO.out
          exact ⟨⟨j + 1, hlt, by go_num, I, (HK.out.alloc _).trans k5⟩, by simp [intOf]; omega⟩
    · have hke : j = ds.length := by omega
      subst hke
      go_wp2
      go_ret
      exact ⟨ret_boolG (decide_eq_true ⟨by omega, HB.out⟩).symm, hkp⟩

end Go.Proofs.Ytpnplfngglfpoaa
