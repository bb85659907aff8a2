/-
  Good voices in the program.
-/
import Derived.Test.YtapfafibhjpkdaaSamp15
namespace Go.Proofs.Ytapfafibhjpkdaa
open Go.ChangeShapes Go.WideShapes Go.ChangeAt Go.RowKit

set_option maxRecDepth 100000
set_option linter.unusedVariables false

set_option maxHeartbeats 4000000 in
theorem igoodV (s : Value) (l : List Int) (a : Int) (lp : Bool) (lf rt rk : Int) (w : World) (hv : NumAt w s l) (hn : l.length ≤ 1048576) :
    Calls Try.prog 12 #[.agg #[s, .int .i64 a, .bool lp, .int .i64 lf, .int .i64 rt, .int .i64 rk]] w fun e w' => e = .returned (.bool (dec (VoiceP l a lf rt rk))) ∧ Kept w w' := by
  obtain ⟨ao, cap, hsl⟩ := row_nil hv
  subst hsl
  by_cases h0 : SampP l
  case neg =>
    have d0 : dec (SampP l) = false := dec_no h0
    go_enter Try.func12, Try.ntmps12
    repeat (first | (go_at_call 42; refine (isamples l _ _ (hv.kept ((But.refl _ _ _).alloc _)) hn).mono ?_; rintro e w1 ⟨rfl, k1⟩; rw [d0]; have L0 := (Loc.new w [.slice ao l.length cap, .int .i64 a, .bool lp, .int .i64 lf, .int .i64 rt, .int .i64 rk] 27).kept k1; have p0 := L0.cell 0 rfl; have p1 := L0.cell 1 rfl; have p2 := L0.cell 2 rfl; have p3 := L0.cell 3 rfl; have p4 := L0.cell 4 rfl; have p5 := L0.cell 5 rfl; clear L0; dsimp only) | (go_at_call 43; refine (igain _ _).mono ?_; rintro e w' ⟨rfl, rfl⟩; (first | rw [d3] | rw [d4]); dsimp only) | go_values | go_skip | go_guarded | go_step | go_upon)
    go_ret
    exact ⟨ret_boolG (dec_no fun h => h0 h.1).symm, ((But.refl _ _ _).alloc _).trans k1⟩
  have d0 : dec (SampP l) = true := dec_yes h0
  by_cases h1 : 0 ≤ a
  case neg =>
    have d1 : decide (0 ≤ a) = false := decide_eq_false h1
    go_enter Try.func12, Try.ntmps12
    repeat (first | (go_at_call 42; refine (isamples l _ _ (hv.kept ((But.refl _ _ _).alloc _)) hn).mono ?_; rintro e w1 ⟨rfl, k1⟩; rw [d0]; have L0 := (Loc.new w [.slice ao l.length cap, .int .i64 a, .bool lp, .int .i64 lf, .int .i64 rt, .int .i64 rk] 27).kept k1; have p0 := L0.cell 0 rfl; have p1 := L0.cell 1 rfl; have p2 := L0.cell 2 rfl; have p3 := L0.cell 3 rfl; have p4 := L0.cell 4 rfl; have p5 := L0.cell 5 rfl; clear L0; dsimp only) | (go_at_call 43; refine (igain _ _).mono ?_; rintro e w' ⟨rfl, rfl⟩; (first | rw [d3] | rw [d4]); dsimp only) | go_values | go_skip | go_guarded | go_step | go_upon)
    go_ret
    exact ⟨ret_boolG (dec_no fun h => h1 h.2.1.1).symm, ((But.refl _ _ _).alloc _).trans k1⟩
  have d1 : decide (0 ≤ a) = true := decide_eq_true h1
  by_cases h2 : a < (l.length : Int)
  case neg =>
    have d2 : decide (a < (l.length : Int)) = false := decide_eq_false h2
    go_enter Try.func12, Try.ntmps12
    repeat (first | (go_at_call 42; refine (isamples l _ _ (hv.kept ((But.refl _ _ _).alloc _)) hn).mono ?_; rintro e w1 ⟨rfl, k1⟩; rw [d0]; have L0 := (Loc.new w [.slice ao l.length cap, .int .i64 a, .bool lp, .int .i64 lf, .int .i64 rt, .int .i64 rk] 27).kept k1; have p0 := L0.cell 0 rfl; have p1 := L0.cell 1 rfl; have p2 := L0.cell 2 rfl; have p3 := L0.cell 3 rfl; have p4 := L0.cell 4 rfl; have p5 := L0.cell 5 rfl; clear L0; dsimp only) | (go_at_call 43; refine (igain _ _).mono ?_; rintro e w' ⟨rfl, rfl⟩; (first | rw [d3] | rw [d4]); dsimp only) | go_values | go_skip | go_guarded | go_step | go_upon)
    go_ret
    exact ⟨ret_boolG (dec_no fun h => h2 h.2.1.2).symm, ((But.refl _ _ _).alloc _).trans k1⟩
  have d2 : decide (a < (l.length : Int)) = true := decide_eq_true h2
  by_cases h3 : 0 ≤ lf ∧ lf ≤ 65536
  case neg =>
    have d3 : decide (0 ≤ lf ∧ lf ≤ 65536) = false := decide_eq_false h3
    go_enter Try.func12, Try.ntmps12
    repeat (first | (go_at_call 42; refine (isamples l _ _ (hv.kept ((But.refl _ _ _).alloc _)) hn).mono ?_; rintro e w1 ⟨rfl, k1⟩; rw [d0]; have L0 := (Loc.new w [.slice ao l.length cap, .int .i64 a, .bool lp, .int .i64 lf, .int .i64 rt, .int .i64 rk] 27).kept k1; have p0 := L0.cell 0 rfl; have p1 := L0.cell 1 rfl; have p2 := L0.cell 2 rfl; have p3 := L0.cell 3 rfl; have p4 := L0.cell 4 rfl; have p5 := L0.cell 5 rfl; clear L0; dsimp only) | (go_at_call 43; refine (igain _ _).mono ?_; rintro e w' ⟨rfl, rfl⟩; (first | rw [d3] | rw [d4]); dsimp only) | go_values | go_skip | go_guarded | go_step | go_upon)
    go_ret
    exact ⟨ret_boolG (dec_no fun h => h3 h.2.2.1).symm, ((But.refl _ _ _).alloc _).trans k1⟩
  have d3 : decide (0 ≤ lf ∧ lf ≤ 65536) = true := decide_eq_true h3
  by_cases h4 : 0 ≤ rt ∧ rt ≤ 65536
  case neg =>
    have d4 : decide (0 ≤ rt ∧ rt ≤ 65536) = false := decide_eq_false h4
    go_enter Try.func12, Try.ntmps12
    repeat (first | (go_at_call 42; refine (isamples l _ _ (hv.kept ((But.refl _ _ _).alloc _)) hn).mono ?_; rintro e w1 ⟨rfl, k1⟩; rw [d0]; have L0 := (Loc.new w [.slice ao l.length cap, .int .i64 a, .bool lp, .int .i64 lf, .int .i64 rt, .int .i64 rk] 27).kept k1; have p0 := L0.cell 0 rfl; have p1 := L0.cell 1 rfl; have p2 := L0.cell 2 rfl; have p3 := L0.cell 3 rfl; have p4 := L0.cell 4 rfl; have p5 := L0.cell 5 rfl; clear L0; dsimp only) | (go_at_call 43; refine (igain _ _).mono ?_; rintro e w' ⟨rfl, rfl⟩; (first | rw [d3] | rw [d4]); dsimp only) | go_values | go_skip | go_guarded | go_step | go_upon)
    go_ret
    exact ⟨ret_boolG (dec_no fun h => h4 h.2.2.2.1).symm, ((But.refl _ _ _).alloc _).trans k1⟩
  have d4 : decide (0 ≤ rt ∧ rt ≤ 65536) = true := decide_eq_true h4
  by_cases h5 : 0 ≤ rk
  case neg =>
    have d5 : decide (0 ≤ rk) = false := decide_eq_false h5
    go_enter Try.func12, Try.ntmps12
    repeat (first | (go_at_call 42; refine (isamples l _ _ (hv.kept ((But.refl _ _ _).alloc _)) hn).mono ?_; rintro e w1 ⟨rfl, k1⟩; rw [d0]; have L0 := (Loc.new w [.slice ao l.length cap, .int .i64 a, .bool lp, .int .i64 lf, .int .i64 rt, .int .i64 rk] 27).kept k1; have p0 := L0.cell 0 rfl; have p1 := L0.cell 1 rfl; have p2 := L0.cell 2 rfl; have p3 := L0.cell 3 rfl; have p4 := L0.cell 4 rfl; have p5 := L0.cell 5 rfl; clear L0; dsimp only) | (go_at_call 43; refine (igain _ _).mono ?_; rintro e w' ⟨rfl, rfl⟩; (first | rw [d3] | rw [d4]); dsimp only) | go_values | go_skip | go_guarded | go_step | go_upon)
    go_ret
    exact ⟨ret_boolG (dec_no fun h => h5 h.2.2.2.2.1).symm, ((But.refl _ _ _).alloc _).trans k1⟩
  have d5 : decide (0 ≤ rk) = true := decide_eq_true h5
  by_cases h6 : rk ≤ 100
  case neg =>
    have d6 : decide (rk ≤ 100) = false := decide_eq_false h6
    go_enter Try.func12, Try.ntmps12
    repeat (first | (go_at_call 42; refine (isamples l _ _ (hv.kept ((But.refl _ _ _).alloc _)) hn).mono ?_; rintro e w1 ⟨rfl, k1⟩; rw [d0]; have L0 := (Loc.new w [.slice ao l.length cap, .int .i64 a, .bool lp, .int .i64 lf, .int .i64 rt, .int .i64 rk] 27).kept k1; have p0 := L0.cell 0 rfl; have p1 := L0.cell 1 rfl; have p2 := L0.cell 2 rfl; have p3 := L0.cell 3 rfl; have p4 := L0.cell 4 rfl; have p5 := L0.cell 5 rfl; clear L0; dsimp only) | (go_at_call 43; refine (igain _ _).mono ?_; rintro e w' ⟨rfl, rfl⟩; (first | rw [d3] | rw [d4]); dsimp only) | go_values | go_skip | go_guarded | go_step | go_upon)
    go_ret
    exact ⟨ret_boolG (dec_no fun h => h6 h.2.2.2.2.2).symm, ((But.refl _ _ _).alloc _).trans k1⟩
  have d6 : decide (rk ≤ 100) = true := decide_eq_true h6
  go_enter Try.func12, Try.ntmps12
  repeat (first | (go_at_call 42; refine (isamples l _ _ (hv.kept ((But.refl _ _ _).alloc _)) hn).mono ?_; rintro e w1 ⟨rfl, k1⟩; rw [d0]; have L0 := (Loc.new w [.slice ao l.length cap, .int .i64 a, .bool lp, .int .i64 lf, .int .i64 rt, .int .i64 rk] 27).kept k1; have p0 := L0.cell 0 rfl; have p1 := L0.cell 1 rfl; have p2 := L0.cell 2 rfl; have p3 := L0.cell 3 rfl; have p4 := L0.cell 4 rfl; have p5 := L0.cell 5 rfl; clear L0; dsimp only) | (go_at_call 43; refine (igain _ _).mono ?_; rintro e w' ⟨rfl, rfl⟩; (first | rw [d3] | rw [d4]); dsimp only) | go_values | go_skip | go_guarded | go_step | go_upon)
  go_ret
  exact ⟨ret_boolG (dec_yes ⟨h0, ⟨h1, h2⟩, h3, h4, ⟨h5, h6⟩⟩).symm, ((But.refl _ _ _).alloc _).trans k1⟩

end Go.Proofs.Ytapfafibhjpkdaa
