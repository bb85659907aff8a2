/-
  The small functions of keys, in the program and in its specification.
-/
import Derived.Test.YtpnplfngglfpoaaRows
import Derived.Test.YtpnplfngglfpoaaKeys11
import Derived.Test.YtpnplfngglfpoaaMulAll
import Derived.Test.YtpnplfngglfpoaaQuiet
import Derived.Deep.RegionHeld3
import Derived.Deep.QuietTactic
namespace Go.Proofs.Ytpnplfngglfpoaa
open Go.ChangeShapes Go.WideShapes Go.ChangeAt Go.RowKit

set_option maxRecDepth 100000
set_option linter.unusedVariables false
theorem ret_boolG {a b : Bool} (h : a = b) : Ending.returned (.bool a) = .returned (.bool b) := by rw [h]
theorem ret_intG {a b : Int} (h : a = b) : Ending.returned (.int .i64 a) = .returned (.int .i64 b) := by rw [h]
theorem sIn (n lo hi : Int) (w : World) : Calls Try.prog 52 #[.int .i64 n, .int .i64 lo, .int .i64 hi] w fun e w' => e = .returned (.bool (decide (lo ≤ n ∧ n ≤ hi))) ∧ w' = w := by
  go_enter Try.func52, Try.ntmps52
  go_wp2
  all_goals
    go_ret
    exact ⟨ret_boolG (by rw [Bool.eq_iff_iff]; simp <;> omega), rfl⟩
theorem sval (n : Int) (w : World) : Calls Try.prog 73 #[.int .i64 n] w fun e w' => e = .returned (.bool (decide (ValP n))) ∧ w' = w := by
  go_enter Try.func73, Try.ntmps73
  go_wp2_with (go_at_call 52; refine (sIn _ _ _ _).mono ?_; rintro e w' ⟨rfl, rfl⟩; dsimp only)
  go_ret
  exact ⟨rfl, rfl⟩
theorem ival (n : Int) (w : World) : Calls Try.prog 82 #[.int .i64 n] w fun e w' => e = .returned (.bool (decide (ValP n))) ∧ w' = w := by
  go_enter Try.func82, Try.ntmps82
  go_wp2
  all_goals
    go_ret
    exact ⟨ret_boolG (by rw [Bool.eq_iff_iff]; simp <;> omega), rfl⟩
def cmpI (a b : Int) : Int := if a < b then -1 else if b < a then 1 else 0
theorem isNaN (a : Int) (w : World) : Calls Try.prog 113 #[.int .i64 a] w fun e w' => e = .returned (.bool false) ∧ w' = w := by
  go_enter Try.func113, Try.ntmps113
  go_wp2
  go_ret
  exact ⟨rfl, rfl⟩
theorem compareI (a b : Int) (w : World) : Calls Try.prog 103 #[.int .i64 a, .int .i64 b] w fun e w' => e = .returned (.int .i64 (cmpI a b)) ∧ w' = w := by
  go_enter Try.func103, Try.ntmps103
  go_wp2_with (go_at_call 113; refine (isNaN _ _).mono ?_; rintro e w' ⟨rfl, rfl⟩)
  all_goals
    go_ret
    exact ⟨ret_intG (by simp [cmpI] at * <;> omega), rfl⟩
theorem cmpI_lt {a b : Int} : decide (cmpI a b < 0) = decide (a < b) := by
  unfold cmpI
  rw [Bool.eq_iff_iff, decide_eq_true_iff, decide_eq_true_iff]
  repeat' split <;> omega
theorem cmpF (f v x : Int) (w : World) : Calls Try.prog 84 #[.agg #[.int .i64 f, .int .i64 v], .int .i64 x] w fun e w' => e = .returned (.int .i64 (cmpI f x)) ∧ Kept w w' := by
  go_enter Try.func84, Try.ntmps84
  go_wp2_with (go_at_call 103; refine (compareI _ _ _).mono ?_; rintro e w' ⟨rfl, rfl⟩; dsimp only)
  go_ret
  exact ⟨rfl, by (repeat (first | with_reducible exact But.refl _ _ _ | with_reducible apply But.drewN | with_reducible apply But.drew | with_reducible apply But.alloc | (with_reducible refine But.setNew ?_ (by simp +arith) _)))⟩
/-- Division towards the lesser number. -/
theorem sdown (a b : Int) (w : World) (ha : -4611686018427387904 ≤ a) (ha' : a ≤ 4611686018427387904) (hb : 0 < b) (hb' : b < 4611686018427387904) :
    Calls Try.prog 86 #[.int .i64 a, .int .i64 b] w fun e w' => e = .returned (.int .i64 (a / b)) ∧ w' = w := by
  have hd := div_bd a b 4611686018427387904 hb ha ha'
  have d1 : decide (b < 0) = false := by simp; omega
  by_cases hm : a.tmod b = 0
  · have e := down_pos a b hb (by omega)
    have d2 : (a.tmod b == 0) = true := by simpa using hm
    go_enter Try.func86, Try.ntmps86
    go_wp2
    all_goals
      go_ret
      exact ⟨rfl, rfl⟩
  · have d2 : (a.tmod b == 0) = false := by simpa using hm
    by_cases h0 : a < 0
    · have hneg : a.tmod b < 0 := by
        have := Int.tmod_nonneg b (show 0 ≤ -a by omega)
        rw [Int.neg_tmod] at this
        omega
      have e := down_neg a b hb hneg
      have d3 : decide (a < 0) = true := decide_eq_true h0
      go_enter Try.func86, Try.ntmps86
      go_wp2
      all_goals
        go_ret
        exact ⟨rfl, rfl⟩
    · have e := down_pos a b hb (Int.tmod_nonneg b (by omega))
      have d3 : decide (a < 0) = false := decide_eq_false h0
      go_enter Try.func86, Try.ntmps86
      go_wp2
      all_goals
        go_ret
        exact ⟨rfl, rfl⟩
/-- A key's distance in frames and its numbers keep to bounds. -/
theorem btw_in {a b : KeyD} {f : Int} (ha : 0 ≤ a.1 ∧ a.1 < 60) (hb : 0 ≤ b.1 ∧ b.1 < 60) (va : ValP a.2) (vb : ValP b.2) (h1 : a.1 < f) (h2 : f ≤ b.1) :
    -12000000 ≤ (b.2 - a.2) * (f - a.1) ∧ (b.2 - a.2) * (f - a.1) ≤ 12000000 := by
  unfold ValP at va vb
  have := mul_bd (x := b.2 - a.2) (y := f - a.1) (A := 200000) (B := 60) (by omega) (by omega) (by omega) (by omega)
  omega
set_option maxHeartbeats 1000000 in
theorem ibtw (a b : KeyD) (f : Int) (w : World) (ha : 0 ≤ a.1 ∧ a.1 < 60) (hb : 0 ≤ b.1 ∧ b.1 < 60) (va : ValP a.2) (vb : ValP b.2) (h1 : a.1 < f) (h2 : f ≤ b.1) :
    Calls Try.prog 85 #[.agg #[.int .i64 a.1, .int .i64 a.2], .agg #[.int .i64 b.1, .int .i64 b.2], .int .i64 f] w fun e w' => e = .returned (.int .i64 (btw a b f)) ∧ Kept w w' := by
  have hp := btw_in ha hb va vb h1 h2
  have hv := btw_bd va vb h1 h2
  have HB : Hid (btw a b f = a.2 + (b.2 - a.2) * (f - a.1) / (b.1 - a.1)) := rfl
  rw [HB.out]
  rw [HB.out] at hv
  obtain ⟨a1, a2⟩ := a
  obtain ⟨b1, b2⟩ := b
  dsimp only at *
  clear HB
  unfold ValP at va vb hv
  have e1 : IntKind.i64.wrap (b2 - a2) = b2 - a2 := IntWalk.i64_in _ (by omega)
  have e2 : IntKind.i64.wrap (f - a1) = f - a1 := IntWalk.i64_in _ (by omega)
  have e3 : IntKind.i64.wrap (b1 - a1) = b1 - a1 := IntWalk.i64_in _ (by omega)
  generalize hm : (b2 - a2) * (f - a1) = M at *
  have e4 : IntKind.i64.wrap M = M := IntWalk.i64_in _ (by omega)
  generalize hq : M / (b1 - a1) = Q at *
  have e5 : IntKind.i64.wrap (a2 + Q) = a2 + Q := IntWalk.i64_in _ (by omega)
  have dd := fun W => dd_any M (b1 - a1) W (by omega) (by omega) (by omega) (by omega)
  rw [hq] at dd
  have DD : Hid _ := dd
  clear dd hq
  go_enter Try.func85, Try.ntmps85
  go_wp2_with fail
  refine wp_region_kept (by kernel_rfl) (by kernel_rfl) ?_
  have hcc := @KW.cell_eq
  repeat (go_big_quiet_step (first | (go_at_call 104; exact kw_same (DD.out _))))
  refine wpQuiet_nil ?_
  rintro _ ⟨⟨w5, k5⟩, rfl⟩
  clear hcc
  go_wp2
  go_ret
  exact ⟨rfl, But.trans (by (repeat (first | with_reducible exact But.refl _ _ _ | with_reducible apply But.drewN | with_reducible apply But.drew | with_reducible apply But.alloc | (with_reducible refine But.setNew ?_ (by simp +arith) _)))) k5⟩

end Go.Proofs.Ytpnplfngglfpoaa
