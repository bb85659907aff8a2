/-
  Closures that ask a figure for its bounds.
-/
import Derived.Test.YtfibikkbhbmfkaaGr9
namespace Go.Proofs.Ytfibikkbhbmfkaa
open Go.ChangeShapes Go.WideShapes Go.ChangeAt Go.RowKit

set_option maxRecDepth 100000
set_option linter.unusedVariables false
set_option linter.unusedSimpArgs false

open Go.Sort
theorem boxBoundsG (q0 q1 q2 q3 : Int) (w : World) : Calls Try.prog 133 #[.agg #[.int .i64 q0, .int .i64 q1, .int .i64 q2, .int .i64 q3]] w fun e w' => e = .returned (.agg #[.int .i64 q0, .int .i64 q1, .int .i64 q2, .int .i64 q3]) ∧ Gr w w' := by
  go_enter Try.func133, Try.ntmps133
  repeat (first | go_values | go_skip | go_guarded | go_step | go_upon)
  go_returns
  exact ⟨rfl, by (repeat (first | with_reducible exact Gr.refl _ | with_reducible apply Gr.drewN | with_reducible apply Gr.drew | with_reducible apply Gr.alloc))⟩
theorem diskBoundsG (x y r : Int) (w : World) (hx : -100000 ≤ x ∧ x ≤ 100000) (hy : -100000 ≤ y ∧ y ≤ 100000) (hr : 1 ≤ r ∧ r ≤ 1000) : Calls Try.prog 135 #[.agg #[.int .i64 x, .int .i64 y, .int .i64 r]] w fun e w' => e = .returned (.agg #[.int .i64 (x - r), .int .i64 (y - r), .int .i64 (x + r), .int .i64 (y + r)]) ∧ Gr w w' := by
  have e1 := IntWalk.i64_in (n := x - r) (by omega)
  have e2 := IntWalk.i64_in (n := y - r) (by omega)
  have e3 := IntWalk.i64_in (n := x + r) (by omega)
  have e4 := IntWalk.i64_in (n := y + r) (by omega)
  go_enter Try.func135, Try.ntmps135
  repeat (first | go_values | go_skip | go_guarded | go_step | go_upon)
  go_returns
  exact ⟨rfl, by (repeat (first | with_reducible exact Gr.refl _ | with_reducible apply Gr.drewN | with_reducible apply Gr.drew | with_reducible apply Gr.alloc))⟩
/-- How a figure's bounds are asked. -/
theorem fig_bounds {p : ShapeD} (h : ShapeP p) : ∃ (t : TypeId) (v : Value) (fn : FuncId), figV p = .iface t v ∧ (∀ W : World, Calls Try.prog fn #[v] W fun e w' => e = .returned (.agg #[.int .i64 (bnd p).1, .int .i64 (bnd p).2.1, .int .i64 (bnd p).2.2.1, .int .i64 (bnd p).2.2.2]) ∧ Gr W w') ∧ (t = 60 ∧ fn = 133 ∨ t = 98 ∧ fn = 135) := by
  obtain ⟨k, x, y, a, b⟩ := p
  obtain ⟨HX, HY, HA, hh⟩ := h
  dsimp only at HX HY HA hh
  rcases hh with ⟨rfl, hb⟩ | ⟨rfl, rfl⟩
  · exact ⟨_, _, 133, figV_box x y a b, fun W => boxBoundsG _ _ _ _ W, .inl ⟨rfl, rfl⟩⟩
  · exact ⟨_, _, 135, figV_disk x y a 0, fun W => diskBoundsG _ _ _ W HX HY HA, .inr ⟨rfl, rfl⟩⟩
theorem mth_box (v : Value) (W : World) : (method 271 60 v "loop.example/g00064/impl.bounds").run Try.prog W = .ok (133, v) W := by kernel_rfl
theorem mth_disk (v : Value) (W : World) : (method 271 98 v "loop.example/g00064/impl.bounds").run Try.prog W = .ok (135, v) W := by kernel_rfl
theorem fld0 (q0 q1 q2 q3 : Int) (W : World) : (Instr.field 60 (.agg #[.int .i64 q0, .int .i64 q1, .int .i64 q2, .int .i64 q3]) 0).run Try.prog W = .ok (.int .i64 q0) W := by kernel_rfl
theorem fld1 (q0 q1 q2 q3 : Int) (W : World) : (Instr.field 60 (.agg #[.int .i64 q0, .int .i64 q1, .int .i64 q2, .int .i64 q3]) 1).run Try.prog W = .ok (.int .i64 q1) W := by kernel_rfl
theorem fld2 (q0 q1 q2 q3 : Int) (W : World) : (Instr.field 60 (.agg #[.int .i64 q0, .int .i64 q1, .int .i64 q2, .int .i64 q3]) 2).run Try.prog W = .ok (.int .i64 q2) W := by kernel_rfl
theorem fld3 (q0 q1 q2 q3 : Int) (W : World) : (Instr.field 60 (.agg #[.int .i64 q0, .int .i64 q1, .int .i64 q2, .int .i64 q3]) 3).run Try.prog W = .ok (.int .i64 q3) W := by kernel_rfl
attribute [local go_sem] mth_box mth_disk fld0 fld1 fld2 fld3
set_option maxHeartbeats 4000000 in
theorem cloEnds (ps : List ShapeD) (fao : Option Addr) (fcap Bf Bl : Nat) (lf : Int) (i : Nat) (p : ShapeD) (w : World) (hv : FigAt w (.slice fao ps.length fcap) ps) (hp : ps[i]? = some p) (hg : ShapeP p) (hl : ps.length ≤ 40) (hf : w.cell? ⟨Bf, 0, none⟩ = some (.slice fao ps.length fcap)) (hL : w.cell? ⟨Bl, 0, none⟩ = some (.int .i64 lf)) :
    Calls Try.prog 48 #[.int .i64 (i : Int), .pointer (some ⟨Bf, 0, none⟩), .pointer (some ⟨Bl, 0, none⟩)] w fun e w' => e = .returned (.bool (decide ((bnd p).2.2.1 < lf))) ∧ Gr w w' := by
  have hi : i < ps.length := (List.getElem?_eq_some_iff.1 hp).1
  obtain ⟨b, o, cap', e, c0⟩ := fig_get hv hp
  cases e
  obtain ⟨t, v, fn, hfv, hc, hk⟩ := fig_bounds hg
  rw [hfv] at c0
  have q1 := cell_lt c0
  have q2 := cell_lt hf
  have q3 := cell_lt hL
  have HC : Hid _ := hc
  clear hc hfv hv hp
  obtain ⟨⟨b0, b1, b2, b3⟩, hq⟩ : ∃ q, bnd p = q := ⟨_, rfl⟩
  rw [hq] at HC ⊢
  dsimp only at HC ⊢
  rcases hk with ⟨rfl, rfl⟩ | ⟨rfl, rfl⟩
  · go_enter Try.func48, Try.ntmps48
    repeat (first | go_values | go_skip | go_guarded | go_step | go_upon)
    refine wp_region_gr (by kernel_rfl) (by kernel_rfl) ?_
    have hcc := GW.cell_eq w
    repeat (go_big_quiet_step (first | (go_at_call 133; exact gw_call (HC.out _))))
    refine wpQuiet_nil ?_
    rintro w5 ⟨⟨w6, k5⟩, h5⟩
    change w5 = w6 at h5
    subst h5
    clear hcc
    repeat (first | go_values | go_skip | go_guarded | go_step | go_upon)
    go_ret
    exact ⟨rfl, k5⟩
  · go_enter Try.func48, Try.ntmps48
    repeat (first | go_values | go_skip | go_guarded | go_step | go_upon)
    refine wp_region_gr (by kernel_rfl) (by kernel_rfl) ?_
    have hcc := GW.cell_eq w
    repeat (go_big_quiet_step (first | (go_at_call 135; exact gw_call (HC.out _))))
    refine wpQuiet_nil ?_
    rintro w5 ⟨⟨w6, k5⟩, h5⟩
    change w5 = w6 at h5
    subst h5
    clear hcc
    repeat (first | go_values | go_skip | go_guarded | go_step | go_upon)
    go_ret
    exact ⟨rfl, k5⟩

end Go.Proofs.Ytfibikkbhbmfkaa
