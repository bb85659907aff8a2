/-
  Cells and the cells next to them, in the specification.
-/
import Derived.Test.YtnfkgnbhdhpnmaaCell13
namespace Go.Proofs.Ytnfkgnbhdhpnmaa
open Go.ChangeShapes Go.WideShapes Go.ChangeAt Go.RowKit

set_option maxRecDepth 100000
set_option linter.unusedVariables false
theorem cell_ltG {w : World} {b o : Nat} {v : Value} (h : w.cell? ⟨b, o, none⟩ = some v) : b < w.heap.size := by
  rcases Nat.lt_or_ge b w.heap.size with k | k
  · exact k
  · simp [World.cell?, Array.getElem?_eq_none k] at h
set_option maxHeartbeats 4000000 in
theorem sat (a b d x y z : Int) (s v : Value) (w : World) (hv : NumAt w v [x, y, z]) (he : Edge a b d) :
    Calls Try.prog 48 #[.agg #[.int .i64 a, .int .i64 b, .int .i64 d, s], v] w fun e w' => e = .returned (.int .i64 (atM a b d x y z)) ∧ Kept w w' := by
  have a1 := he.1.1
  have a2 := he.1.2
  have b1 := he.2.1.1
  have b2 := he.2.1.2
  have d1 := he.2.2.1
  have d2 := he.2.2.2
  cases q1 : decide (0 ≤ x ∧ x ≤ a - 1) with
  | false =>
    rw [show atM a b d x y z = -1 from if_neg fun h => of_decide_eq_false q1 h.1]
    go_enter Try.func48, Try.ntmps48
    repeat (first | go_values | go_skip | go_guarded | go_step | go_upon)
    obtain ⟨W, hW⟩ : ∃ x, x = w.alloc (.cells #[.int .i64 a, .int .i64 b, .int .i64 d, s] 25) := ⟨_, rfl⟩
    have kz : Kept w W := by rw [hW]; exact (But.refl _ _ _).alloc _
    have LW : Loc W w.heap.size [.int .i64 a, .int .i64 b, .int .i64 d, s] := by rw [hW]; exact Loc.new _ _ _
    rw [← hW]
    clear hW
    have v0 := LW.cell 0 rfl
    have v1 := LW.cell 1 rfl
    have v2 := LW.cell 2 rfl
    have v3 := LW.cell 3 rfl
    have vl := LW.lt
    have hw := hv.kept kz
    obtain ⟨g, o, cap, ee, c0⟩ := num_get hw (i := 0) rfl
    subst ee
    obtain ⟨_, _, _, ee, c1⟩ := num_get hw (i := 1) rfl
    cases ee
    obtain ⟨_, _, _, ee, c2⟩ := num_get hw (i := 2) rfl
    cases ee
    simp only [Nat.add_zero] at c0
    have gl := cell_ltG c0
    refine wp_region_kept (by kernel_rfl) (by kernel_rfl) ?_
    have hcc := KW.cell_eq W
    repeat (go_big_quiet_step (first | (go_at_call 45; with_reducible exact kw_same (calls_bool q1 (sIn x 0 (a - 1) _)))))
    refine wpQuiet_nil ?_
    rintro y0 ⟨⟨w8, k0⟩, h9⟩
    change y0 = w8 at h9
    subst h9
    clear hcc
    repeat (first | go_values | go_skip | go_guarded | go_step | go_upon)
    go_ret
    exact ⟨rfl, kz.trans k0⟩
  | true =>
    cases q2 : decide (0 ≤ y ∧ y ≤ b - 1) with
    | false =>
      rw [show atM a b d x y z = -1 from if_neg fun h => of_decide_eq_false q2 h.2.1]
      go_enter Try.func48, Try.ntmps48
      repeat (first | go_values | go_skip | go_guarded | go_step | go_upon)
      obtain ⟨W, hW⟩ : ∃ x, x = w.alloc (.cells #[.int .i64 a, .int .i64 b, .int .i64 d, s] 25) := ⟨_, rfl⟩
      have kz : Kept w W := by rw [hW]; exact (But.refl _ _ _).alloc _
      have LW : Loc W w.heap.size [.int .i64 a, .int .i64 b, .int .i64 d, s] := by rw [hW]; exact Loc.new _ _ _
      rw [← hW]
      clear hW
      have v0 := LW.cell 0 rfl
      have v1 := LW.cell 1 rfl
      have v2 := LW.cell 2 rfl
      have v3 := LW.cell 3 rfl
      have vl := LW.lt
      have hw := hv.kept kz
      obtain ⟨g, o, cap, ee, c0⟩ := num_get hw (i := 0) rfl
      subst ee
      obtain ⟨_, _, _, ee, c1⟩ := num_get hw (i := 1) rfl
      cases ee
      obtain ⟨_, _, _, ee, c2⟩ := num_get hw (i := 2) rfl
      cases ee
      simp only [Nat.add_zero] at c0
      have gl := cell_ltG c0
      refine wp_region_kept (by kernel_rfl) (by kernel_rfl) ?_
      have hcc := KW.cell_eq W
      repeat (go_big_quiet_step (first | (go_at_call 45; with_reducible exact kw_same (calls_bool q1 (sIn x 0 (a - 1) _))) | (go_at_call 45; with_reducible exact kw_same (calls_bool q2 (sIn y 0 (b - 1) _)))))
      refine wpQuiet_nil ?_
      rintro y0 ⟨⟨w8, k0⟩, h9⟩
      change y0 = w8 at h9
      subst h9
      clear hcc
      repeat (first | go_values | go_skip | go_guarded | go_step | go_upon)
      go_ret
      exact ⟨rfl, kz.trans k0⟩
    | true =>
      cases q3 : decide (0 ≤ z ∧ z ≤ d - 1) with
      | false =>
        rw [show atM a b d x y z = -1 from if_neg fun h => of_decide_eq_false q3 h.2.2]
        go_enter Try.func48, Try.ntmps48
        repeat (first | go_values | go_skip | go_guarded | go_step | go_upon)
        obtain ⟨W, hW⟩ : ∃ x, x = w.alloc (.cells #[.int .i64 a, .int .i64 b, .int .i64 d, s] 25) := ⟨_, rfl⟩
        have kz : Kept w W := by rw [hW]; exact (But.refl _ _ _).alloc _
        have LW : Loc W w.heap.size [.int .i64 a, .int .i64 b, .int .i64 d, s] := by rw [hW]; exact Loc.new _ _ _
        rw [← hW]
        clear hW
        have v0 := LW.cell 0 rfl
        have v1 := LW.cell 1 rfl
        have v2 := LW.cell 2 rfl
        have v3 := LW.cell 3 rfl
        have vl := LW.lt
        have hw := hv.kept kz
        obtain ⟨g, o, cap, ee, c0⟩ := num_get hw (i := 0) rfl
        subst ee
        obtain ⟨_, _, _, ee, c1⟩ := num_get hw (i := 1) rfl
        cases ee
        obtain ⟨_, _, _, ee, c2⟩ := num_get hw (i := 2) rfl
        cases ee
        simp only [Nat.add_zero] at c0
        have gl := cell_ltG c0
        refine wp_region_kept (by kernel_rfl) (by kernel_rfl) ?_
        have hcc := KW.cell_eq W
        repeat (go_big_quiet_step (first | (go_at_call 45; with_reducible exact kw_same (calls_bool q1 (sIn x 0 (a - 1) _))) | (go_at_call 45; with_reducible exact kw_same (calls_bool q2 (sIn y 0 (b - 1) _))) | (go_at_call 45; with_reducible exact kw_same (calls_bool q3 (sIn z 0 (d - 1) _)))))
        refine wpQuiet_nil ?_
        rintro y0 ⟨⟨w8, k0⟩, h9⟩
        change y0 = w8 at h9
        subst h9
        clear hcc
        repeat (first | go_values | go_skip | go_guarded | go_step | go_upon)
        go_ret
        exact ⟨rfl, kz.trans k0⟩
      | true =>
        have hh : Here a b d x y z := ⟨of_decide_eq_true q1, of_decide_eq_true q2, of_decide_eq_true q3⟩
        rw [show atM a b d x y z = num a b x y z from if_pos hh]
        obtain ⟨⟨m1, m2⟩, ⟨m3, m4⟩, ⟨m5, m6⟩, m7, m8⟩ := num_steps he hh
        go_enter Try.func48, Try.ntmps48
        repeat (first | go_values | go_skip | go_guarded | go_step | go_upon)
        obtain ⟨W, hW⟩ : ∃ x, x = w.alloc (.cells #[.int .i64 a, .int .i64 b, .int .i64 d, s] 25) := ⟨_, rfl⟩
        have kz : Kept w W := by rw [hW]; exact (But.refl _ _ _).alloc _
        have LW : Loc W w.heap.size [.int .i64 a, .int .i64 b, .int .i64 d, s] := by rw [hW]; exact Loc.new _ _ _
        rw [← hW]
        clear hW
        have v0 := LW.cell 0 rfl
        have v1 := LW.cell 1 rfl
        have v2 := LW.cell 2 rfl
        have v3 := LW.cell 3 rfl
        have vl := LW.lt
        have hw := hv.kept kz
        obtain ⟨g, o, cap, ee, c0⟩ := num_get hw (i := 0) rfl
        subst ee
        obtain ⟨_, _, _, ee, c1⟩ := num_get hw (i := 1) rfl
        cases ee
        obtain ⟨_, _, _, ee, c2⟩ := num_get hw (i := 2) rfl
        cases ee
        simp only [Nat.add_zero] at c0
        have gl := cell_ltG c0
        refine wp_region_kept (by kernel_rfl) (by kernel_rfl) ?_
        have hcc := KW.cell_eq W
        repeat (go_big_quiet_step (first | (go_at_call 45; with_reducible exact kw_same (calls_bool q1 (sIn x 0 (a - 1) _))) | (go_at_call 45; with_reducible exact kw_same (calls_bool q2 (sIn y 0 (b - 1) _))) | (go_at_call 45; with_reducible exact kw_same (calls_bool q3 (sIn z 0 (d - 1) _)))))
        refine wpQuiet_nil ?_
        rintro y0 ⟨⟨w8, k0⟩, h9⟩
        change y0 = w8 at h9
        subst h9
        clear hcc
        repeat (first | go_values | go_skip | go_guarded | go_step | go_upon)
        have c0 := Kept.cell k0 c0
        have c1 := Kept.cell k0 c1
        have c2 := Kept.cell k0 c2
        have v0 := Kept.cell k0 v0
        have v1 := Kept.cell k0 v1
        have v2 := Kept.cell k0 v2
        have gl := cell_ltG c0
        have vl := cell_ltG v0
        refine wp_region_kept (by kernel_rfl) (by kernel_rfl) ?_
        have hcc := KW.cell_eq y0
        repeat (go_big_quiet_step (fail))
        refine wpQuiet_nil ?_
        rintro y1 ⟨⟨w8, k1⟩, h9⟩
        change y1 = w8 at h9
        subst h9
        clear hcc
        repeat (first | go_values | go_skip | go_guarded | go_step | go_upon)
        go_ret
        exact ⟨rfl, (kz.trans k0).trans k1⟩

end Go.Proofs.Ytnfkgnbhdhpnmaa
