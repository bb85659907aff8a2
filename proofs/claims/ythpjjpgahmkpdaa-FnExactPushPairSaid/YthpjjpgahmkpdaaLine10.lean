/-
  Whether a line is good, as the specification says it.
-/
import Derived.Test.YthpjjpgahmkpdaaSpec10
import Derived.Test.YthpjjpgahmkpdaaQuiet
import Derived.Deep.RegionHeld3
import Derived.Deep.QuietTactic
namespace Go.Proofs.Ythpjjpgahmkpdaa
open Go.ChangeShapes Go.WideShapes Go.ChangeAt Go.RowKit

set_option maxRecDepth 100000
set_option linter.unusedVariables false
theorem ok_more {ps : List BodyD} {k : Nat} (h : ∀ j, j < k → OkAt ps j) (hk : OkAt ps k) : ∀ j, j < k + 1 → OkAt ps j := fun j hj => by
  by_cases e : j = k
  · subst e; exact hk
  · exact h j (by omega)
set_option maxHeartbeats 4000000 in
theorem sgoodline (ps : List BodyD) (v : Value) (w : World) (hv : BodyAt w v ps) (hn : ps.length ≤ 1048576) :
    Calls Try.prog 22 #[v] w fun e w' => e = .returned (.bool (decide (LineP ps))) ∧ Kept w w' := by
  obtain ⟨ao, cap, hsl⟩ := row_nil hv
  subst hsl
  by_cases hc : 20 < ps.length
  · have d : decide ((20 : Int) < (ps.length : Int)) = true := by simp; omega
    go_enter Try.func22, Try.ntmps22
    go_wp2
    go_ret
    exact ⟨ret_boolG (decide_eq_false (fun h => by have := h.1; omega)).symm, But.refl _ _ _⟩
  · have d : decide ((20 : Int) < (ps.length : Int)) = false := by simp; omega
    go_enter Try.func22, Try.ntmps22
    go_wp2
    go_loopw [10] (fun i wr => ∃ k : Nat, k ≤ ps.length ∧ i = .int .i64 k ∧ (∀ j, j < k → OkAt ps j) ∧ Kept w wr) (fun i _ => ps.length - (intOf i).toNat)
    case atStart => exact ⟨0, by omega, rfl, fun j hj => by omega, But.refl _ _ _⟩
    case round =>
      obtain ⟨j, hk, rfl, hb, hkp⟩ := hrel
      by_cases hlt : j < ps.length
      · obtain ⟨b, hp⟩ : ∃ b, ps[j]? = some b := ⟨_, List.getElem?_eq_getElem hlt⟩
        have hv1 := hv.kept hkp
        obtain ⟨bb, o, cap', e, c0, c1, c2, c3⟩ := body_get hv1 hp
        cases e
        obtain ⟨x, p, m, r⟩ := b
        have HK : Hid (Kept w wr) := hkp
        have HB : Hid (∀ i, i < j → OkAt ps i) := hb
        clear hb hkp
        have hgw : bb < wr.heap.size := World.block_lt_of_cell? _ _ c0
        rcases (Decidable.em (BodyP (x, p, m, r))).symm with hb | hb
        · have ha : decide (BodyP (x, p, m, r)) = false := decide_eq_false hb
          clear hv1 hv
          repeat (first | go_values | go_skip | go_guarded | go_step | go_upon)
          refine wp_region_kept (by kernel_rfl) (by kernel_rfl) ?_
          have hcc := KW.cell_eq (wr.alloc (Obj.cells #[.int .i64 x, .int .i64 p, .int .i64 m, .int .i64 r] 33))
          repeat (go_big_quiet_step (first | (go_at_call 71; exact kw_call (calls_bool ha (sbody _ _ _ _ _)))))
          refine wpQuiet_nil ?_
          rintro _ ⟨⟨w5, k5⟩, rfl⟩
          clear hcc
          repeat (first | go_values | go_skip | go_guarded | go_step | go_upon)
          go_ret
          exact ⟨ret_boolG (decide_eq_false (fun h => hb (h.2 j hlt _ hp).1)).symm, (HK.out.alloc _).trans k5⟩
        have ha : decide (BodyP (x, p, m, r)) = true := decide_eq_true hb
        obtain ⟨⟨x1, x2⟩, _, _, _, ⟨r1, r2⟩⟩ := id hb
        dsimp only at x1 x2 r1 r2
        by_cases h0 : 0 < j
        · obtain ⟨j', hj'⟩ : ∃ j', j = j' + 1 := ⟨j - 1, by omega⟩
          obtain ⟨a, hq⟩ : ∃ b, ps[j']? = some b := ⟨_, List.getElem?_eq_getElem (by omega)⟩
          obtain ⟨bb2, o2, cap2, e2, q0, q1, q2, q3⟩ := body_get hv1 hq
          cases e2
          obtain ⟨y, p', m', s⟩ := a
          have hba := (HB.out j' (by omega) _ hq).1
          obtain ⟨⟨y1, y2⟩, _, _, _, ⟨s1, s2⟩⟩ := hba
          dsimp only at y1 y2 s1 s2 q0 q3
          have hl20 : j < 20 := by omega
          have dj : decide (0 < j) = true := decide_eq_true h0
          have ej : IntKind.i64.wrap ((j : Int) - 1) = (j' : Int) := by rw [IntWalk.i64_in _ (by omega)]; omega
          have z1 : (0 : Int) ≤ (j' : Int) := by omega
          have z2 : (j' : Int) < (ps.length : Int) := by omega
          have HJ : Hid (j = j' + 1) := hj'
          clear hv1 hv hj'
          have hoff : OkAt ps j ↔ y + s ≤ x - r := by
            have hj' := HJ.out
            constructor
            · intro h
              exact (h _ hp).2 (y, p', m', s) h0 (by rw [hj']; simpa using hq)
            · intro h b hb'
              rw [hp] at hb'
              cases hb'
              refine ⟨hb, fun a _ ha' => ?_⟩
              rw [hj'] at ha'
              simp only [Nat.add_sub_cancel] at ha'
              rw [hq] at ha'
              cases ha'
              exact h
          have HO : Hid _ := hoff
          have HP : Hid _ := hp
          clear hoff hp hq q1 q2 hb
          have ey : IntKind.i64.wrap (y + s) = y + s := IntWalk.i64_in _ (by omega)
          have ex : IntKind.i64.wrap (x - r) = x - r := IntWalk.i64_in _ (by omega)
          rcases Decidable.em (y + s ≤ x - r) with ho | ho
          · have dg : decide (x - r < y + s) = false := by simp; omega
            repeat (first | go_values | go_skip | go_guarded | go_step | go_upon)
            refine wp_region_kept (by kernel_rfl) (by kernel_rfl) ?_
            have hcc := KW.cell_eq (wr.alloc (Obj.cells #[.int .i64 x, .int .i64 p, .int .i64 m, .int .i64 r] 33))
            repeat (go_big_quiet_step (first | (go_at_call 71; exact kw_call (calls_bool ha (sbody _ _ _ _ _)))))
            refine wpQuiet_nil ?_
            rintro _ ⟨⟨w5, k5⟩, rfl⟩
            clear hcc
            repeat (first | go_values | go_skip | go_guarded | go_step | go_upon)
            clear dj
            exact ⟨⟨j + 1, hlt, by go_num, ok_more HB.out (HO.out.2 ho), (HK.out.alloc _).trans k5⟩, by simp [intOf]; omega⟩
          · have dg : decide (x - r < y + s) = true := by simp; omega
            repeat (first | go_values | go_skip | go_guarded | go_step | go_upon)
            refine wp_region_kept (by kernel_rfl) (by kernel_rfl) ?_
            have hcc := KW.cell_eq (wr.alloc (Obj.cells #[.int .i64 x, .int .i64 p, .int .i64 m, .int .i64 r] 33))
            repeat (go_big_quiet_step (first | (go_at_call 71; exact kw_call (calls_bool ha (sbody _ _ _ _ _)))))
            refine wpQuiet_nil ?_
            rintro _ ⟨⟨w5, k5⟩, rfl⟩
            clear hcc
            repeat (first | go_values | go_skip | go_guarded | go_step | go_upon)
            go_ret
            exact ⟨ret_boolG (decide_eq_false (fun h => ho (HO.out.1 (h.2 j hlt)))).symm, (HK.out.alloc _).trans k5⟩
        · have dj : decide (0 < j) = false := decide_eq_false h0
          clear hv1 hv
          have hok : OkAt ps j := fun b hb' => by
            rw [hp] at hb'
            cases hb'
            exact ⟨hb, fun a h => by omega⟩
          have HO : Hid _ := hok
          clear hok hb h0
          repeat (first | go_values | go_skip | go_guarded | go_step | go_upon)
          refine wp_region_kept (by kernel_rfl) (by kernel_rfl) ?_
          have hcc := KW.cell_eq (wr.alloc (Obj.cells #[.int .i64 x, .int .i64 p, .int .i64 m, .int .i64 r] 33))
          repeat (go_big_quiet_step (first | (go_at_call 71; exact kw_call (calls_bool ha (sbody _ _ _ _ _)))))
          refine wpQuiet_nil ?_
          rintro _ ⟨⟨w5, k5⟩, rfl⟩
          clear hcc
          repeat (first | go_values | go_skip | go_guarded | go_step | go_upon)
          clear dj
          exact ⟨⟨j + 1, hlt, by go_num, ok_more HB.out HO.out, (HK.out.alloc _).trans k5⟩, by simp [intOf]; omega⟩
      · have hke : j = ps.length := by omega
        subst hke
        have HB : Hid _ := hb
        clear hb
        go_wp2
        go_ret
        exact ⟨ret_boolG (decide_eq_true ⟨by omega, HB.out⟩).symm, hkp⟩

end Go.Proofs.Ythpjjpgahmkpdaa
