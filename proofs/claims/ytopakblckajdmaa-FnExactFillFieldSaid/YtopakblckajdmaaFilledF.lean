/-
  Fillings held against one another, marked, and their marks found again.
-/
import Derived.Test.YtopakblckajdmaaFillF14
import Derived.Test.YtopakblckajdmaaFieldG
import Derived.Test.YtopakblckajdmaaFieldF
namespace Go.Proofs.Ytopakblckajdmaa
open Go.ChangeShapes Go.WideShapes Go.ChangeAt Go.RowKit

set_option maxRecDepth 100000
set_option linter.unusedVariables false
section
variable {w w' : World} {v : Value} {c : FilledD} {lo hi lo' hi' : Nat}
theorem FilledAt.kept (h : FilledAt w v c) (k : Kept w w') : FilledAt w' v c := by obtain ⟨s, e, h⟩ := h; exact ⟨s, e, h.kept k⟩
theorem FilledO.kept (h : FilledO w lo hi v c) (k : Kept w w') : FilledO w' lo hi v c := by obtain ⟨s, e, h⟩ := h; exact ⟨s, e, h.kept k⟩
theorem FilledO.but (h : FilledO w lo hi v c) (k : But lo' hi' w w') (ho : hi ≤ lo' ∨ hi' ≤ lo) : FilledO w' lo hi v c := by obtain ⟨s, e, h⟩ := h; exact ⟨s, e, h.but k ho⟩
theorem FilledO.mono (h : FilledO w lo hi v c) (h1 : lo' ≤ lo) (h2 : hi ≤ hi') : FilledO w lo' hi' v c := by obtain ⟨s, e, h⟩ := h; exact ⟨s, e, h.mono h1 h2⟩
theorem FilledO.at (h : FilledO w lo hi v c) : FilledAt w v c := by obtain ⟨s, e, h⟩ := h; exact ⟨s, e, h.at⟩
theorem FilledAt.form (h : FilledAt w v c) : ∃ ao cap, v = .agg #[.bool c.1, .int .i64 c.2.1.1, .int .i64 c.2.1.2.1, .slice ao c.2.1.2.2.length cap, .int .i64 c.2.2] := by
  obtain ⟨s, e, h⟩ := h
  obtain ⟨ao, cap, rfl⟩ := row_nil h
  exact ⟨ao, cap, e⟩
theorem FilledO.form (h : FilledO w lo hi v c) : ∃ ao cap, v = .agg #[.bool c.1, .int .i64 c.2.1.1, .int .i64 c.2.1.2.1, .slice ao c.2.1.2.2.length cap, .int .i64 c.2.2] := h.at.form
theorem FilledAt.row {b : Bool} {x y z : Int} {s : Value} (h : FilledAt w (.agg #[.bool b, .int .i64 x, .int .i64 y, s, .int .i64 z]) c) : NumAt w s c.2.1.2.2 := by
  obtain ⟨s, e, h⟩ := h
  cases e
  exact h
theorem FilledO.row {b : Bool} {x y z : Int} {s : Value} (h : FilledO w lo hi (.agg #[.bool b, .int .i64 x, .int .i64 y, s, .int .i64 z]) c) : NumO w lo hi s c.2.1.2.2 := by
  obtain ⟨s, e, h⟩ := h
  cases e
  exact h
end
set_option maxHeartbeats 4000000 in
theorem eqFilled (c : FilledD) (v v' : Value) (w : World) (hv : FilledAt w v c) (hv' : FilledAt w v' c) (hn : c.2.1.2.2.length ≤ 9000000000000000000) :
    Calls Try.prog 34 #[v, v'] w fun e w' => e = .returned (.bool true) ∧ Kept w w' := by
  obtain ⟨ao, cap, hfm⟩ := hv.form
  subst hfm
  obtain ⟨ao', cap', hfm⟩ := hv'.form
  subst hfm
  have K0 : Kept w ((w.alloc (.cells #[.bool c.1, .int .i64 c.2.1.1, .int .i64 c.2.1.2.1, .slice ao c.2.1.2.2.length cap, .int .i64 c.2.2] 32)).alloc (.cells #[.bool c.1, .int .i64 c.2.1.1, .int .i64 c.2.1.2.1, .slice ao' c.2.1.2.2.length cap', .int .i64 c.2.2] 32)) := ((But.refl _ _ _).alloc _).alloc _
  have r1 := hv.row.kept K0
  have r2 := hv'.row.kept K0
  go_enter Try.func34, Try.ntmps34
  repeat (first | go_values | go_skip | go_guarded | go_step | go_upon)
  go_at_call 25
  refine (eqField c.2.1 _ _ _ ⟨_, rfl, r1⟩ ⟨_, rfl, r2⟩ hn).mono ?_
  rintro e u1 ⟨rfl, k1⟩
  have L0 := ((Loc.new w [.bool c.1, .int .i64 c.2.1.1, .int .i64 c.2.1.2.1, .slice ao c.2.1.2.2.length cap, .int .i64 c.2.2] 32).alloc (.cells #[.bool c.1, .int .i64 c.2.1.1, .int .i64 c.2.1.2.1, .slice ao' c.2.1.2.2.length cap', .int .i64 c.2.2] 32)).kept k1
  have L1 := (Loc.new (w.alloc (.cells #[.bool c.1, .int .i64 c.2.1.1, .int .i64 c.2.1.2.1, .slice ao c.2.1.2.2.length cap, .int .i64 c.2.2] 32)) [.bool c.1, .int .i64 c.2.1.1, .int .i64 c.2.1.2.1, .slice ao' c.2.1.2.2.length cap', .int .i64 c.2.2] 32).kept k1
  simp only [World.size_alloc] at L1
  have p4 := L0.cell 4 rfl
  have q4 := L1.cell 4 rfl
  dsimp only
  repeat (first | go_values | go_skip | go_guarded | go_step | go_upon)
  go_ret
  exact ⟨rfl, K0.trans k1⟩
theorem markFilled (c : FilledD) (v : Value) (k lo hi : Nat) (w : World) (hv : FilledO w lo hi v c) (hb : k + c.2.1.2.2.length ≤ 1000000000000) :
    Calls Try.prog 35 #[v, .int .i64 (k : Int)] w fun e w' => e = .returned (.int .i64 ((k + c.2.1.2.2.length : Nat) : Int)) ∧ FilledO w' lo hi v (c.1, (c.2.1.1, c.2.1.2.1, mNum k c.2.1.2.2.length), c.2.2) ∧ But lo hi w w' := by
  obtain ⟨ao, cap, hfm⟩ := hv.form
  subst hfm
  have hr := hv.row
  go_enter Try.func35, Try.ntmps35
  repeat (first | go_values | go_skip | go_guarded | go_step | go_upon)
  go_at_call 31
  have K0 : Kept w (w.alloc (.cells #[.bool c.1, .int .i64 c.2.1.1, .int .i64 c.2.1.2.1, .slice ao c.2.1.2.2.length cap, .int .i64 c.2.2] 32)) := (But.refl _ _ _).alloc _
  refine (markField c.2.1 _ k lo hi _ ⟨_, rfl, hr.kept K0⟩ hb).mono ?_
  rintro e u1 ⟨rfl, o1, b1⟩
  dsimp only
  repeat (first | go_values | go_skip | go_guarded | go_step | go_upon)
  go_ret
  exact ⟨rfl, ⟨_, rfl, o1.row⟩, (But.of K0).trans b1⟩
theorem heldFilled (b : Bool) (x y z : Int) (m : Nat) (v : Value) (k : Nat) (w : World) (hv : FilledAt w v (b, (x, y, mNum k m), z)) (hb : k + m ≤ 1000000000000) :
    Calls Try.prog 36 #[v, .int .i64 (k : Int)] w fun e w' => e = .returned (.int .i64 ((k + m : Nat) : Int)) ∧ Kept w w' := by
  obtain ⟨ao, cap, hfm⟩ := hv.form
  rw [show (b, (x, y, mNum k m), z).2.1.2.2.length = m from mNum_len k m] at hfm
  subst hfm
  have hr := hv.row
  have hz : decide (((k + m : Nat) : Int) < 0) = false := by simp; omega
  have K0 : Kept w (w.alloc (.cells #[.bool b, .int .i64 x, .int .i64 y, .slice ao m cap, .int .i64 z] 32)) := (But.refl _ _ _).alloc _
  go_enter Try.func36, Try.ntmps36
  repeat (first | go_values | go_skip | go_guarded | go_step | go_upon)
  go_at_call 42
  refine (heldField x y m _ k _ ⟨_, rfl, hr.kept K0⟩ hb).mono ?_
  rintro e u1 ⟨rfl, k1⟩
  generalize hqq : ((k + m : Nat) : Int) = q at *
  have HQ : Hid (((k + m : Nat) : Int) = q) := hqq
  clear hqq
  dsimp only
  repeat (first | go_values | go_skip | go_guarded | go_step | go_upon)
  go_ret
  exact ⟨ret_int HQ.out.symm, K0.trans k1⟩

end Go.Proofs.Ytopakblckajdmaa
