/-
  ValueAt, in the program and in its specification.
-/
import Derived.Test.YtpnplfngglfpoaaVal11
import Derived.Test.YtpnplfngglfpoaaValS11
import Derived.Test.YtpnplfngglfpoaaGoodK11
namespace Go.Proofs.Ytpnplfngglfpoaa
open Go.ChangeShapes Go.WideShapes Go.ChangeAt Go.RowKit

set_option maxRecDepth 100000
set_option linter.unusedVariables false

/-- What ValueAt answers. -/
noncomputable def valA (ps : List KeyD) (f : Int) : Int × Bool := if KeysP 60 ps ∧ (0 ≤ f ∧ f < 60) then (atK ps f, true) else (0, false)
set_option maxHeartbeats 2000000 in
theorem ivalue (ps : List KeyD) (f : Int) (v : Value) (w : World) (hv : KeyAt w v ps) (hn : ps.length ≤ 9000000000000000000) :
    Calls Try.prog 24 #[v, .int .i64 f] w fun e w' => e = .returned (.tuple #[.int .i64 (valA ps f).1, .bool (valA ps f).2]) ∧ Kept w w' := by
  obtain ⟨ao, cap, hsl⟩ := row_nil hv
  subst hsl
  have HI : Hid (Calls Try.prog 54 #[.slice ao ps.length cap, .int .i64 60] w fun e w' => e = .returned (.bool (decide (KeysP 60 ps))) ∧ Kept w w') := ikeys 60 ps _ w hv (by omega) hn
  by_cases h : KeysP 60 ps
  · have d0 : decide (KeysP 60 ps) = true := decide_eq_true h
    by_cases hf : 0 ≤ f ∧ f < 60
    · have ea : valA ps f = (atK ps f, true) := if_pos ⟨h, hf⟩
      rw [ea]
      have d1 : decide (f < 0) = false := by simp; omega
      have d2 : decide (60 ≤ f) = false := by simp; omega
      have HV : Hid (∀ W, Kept w W → Calls Try.prog 56 #[.slice ao ps.length cap, .int .i64 f] W fun e w' => e = .returned (.int .i64 (atK ps f)) ∧ Kept W w') := fun W k => ivalof 60 ps f _ W (hv.kept k) h (by omega)
      go_enter Try.func24, Try.ntmps24
      go_wp2_with (first | (go_at_call 54; refine HI.out.mono ?_; rw [d0]; rintro e w1 ⟨rfl, k1⟩; dsimp only) | (go_at_call 56; refine (HV.out _ k1).mono ?_; rintro e w2 ⟨rfl, k2⟩; dsimp only))
      go_ret2
      exact ⟨rfl, k1.trans k2⟩
    · have ea : valA ps f = (0, false) := if_neg (fun h => hf h.2)
      rw [ea]
      go_enter Try.func24, Try.ntmps24
      go_wp2_with (first | (go_at_call 54; refine HI.out.mono ?_; rw [d0]; rintro e w1 ⟨rfl, k1⟩; dsimp only))
      all_goals
        first | (exfalso; omega) | skip
      all_goals
        go_ret2
        exact ⟨rfl, k1⟩
  · have d0 : decide (KeysP 60 ps) = false := decide_eq_false h
    have ea : valA ps f = (0, false) := if_neg (fun h' => h h'.1)
    rw [ea]
    go_enter Try.func24, Try.ntmps24
    go_wp2_with (first | (go_at_call 54; refine HI.out.mono ?_; rw [d0]; rintro e w1 ⟨rfl, k1⟩; dsimp only))
    go_ret2
    exact ⟨rfl, k1⟩
set_option maxHeartbeats 2000000 in
theorem svalue (ps : List KeyD) (f : Int) (v : Value) (w : World) (hv : KeyAt w v ps) (hn : ps.length ≤ 9000000000000000000) :
    Calls Try.prog 22 #[v, .int .i64 f] w fun e w' => e = .returned (.tuple #[.int .i64 (valA ps f).1, .bool (valA ps f).2]) ∧ Kept w w' := by
  obtain ⟨ao, cap, hsl⟩ := row_nil hv
  subst hsl
  have HI : Hid (Calls Try.prog 57 #[.slice ao ps.length cap, .int .i64 60] w fun e w' => e = .returned (.bool (decide (KeysP 60 ps))) ∧ Kept w w') := skeys 60 ps _ w hv (by omega) (by omega) hn
  by_cases h : KeysP 60 ps
  · have d0 : decide (KeysP 60 ps) = true := decide_eq_true h
    by_cases hf : 0 ≤ f ∧ f ≤ 59
    · have ea : valA ps f = (atK ps f, true) := if_pos ⟨h, by omega⟩
      rw [ea]
      have d1 : decide (0 ≤ f ∧ f ≤ 59) = true := decide_eq_true hf
      have HV : Hid (∀ W, Kept w W → Calls Try.prog 59 #[.slice ao ps.length cap, .int .i64 f] W fun e w' => e = .returned (.int .i64 (atK ps f)) ∧ Kept W w') := fun W k => sat 60 ps f _ W (hv.kept k) h (by omega) (by omega)
      go_enter Try.func22, Try.ntmps22
      go_wp2_with (first | (go_at_call 57; refine HI.out.mono ?_; rw [d0]; rintro e w1 ⟨rfl, k1⟩; dsimp only) | (go_at_call 52; refine (sIn _ _ _ _).mono ?_; rw [d1]; rintro e _ ⟨rfl, rfl⟩; dsimp only) | (go_at_call 59; refine (HV.out _ k1).mono ?_; rintro e w2 ⟨rfl, k2⟩; dsimp only))
      go_ret2
      exact ⟨rfl, k1.trans k2⟩
    · have ea : valA ps f = (0, false) := if_neg (fun h => hf (by omega))
      have d1 : decide (0 ≤ f ∧ f ≤ 59) = false := decide_eq_false hf
      rw [ea]
      go_enter Try.func22, Try.ntmps22
      go_wp2_with (first | (go_at_call 57; refine HI.out.mono ?_; rw [d0]; rintro e w1 ⟨rfl, k1⟩; dsimp only) | (go_at_call 52; refine (sIn _ _ _ _).mono ?_; rw [d1]; rintro e _ ⟨rfl, rfl⟩; dsimp only))
      go_ret2
      exact ⟨rfl, k1⟩
  · have d0 : decide (KeysP 60 ps) = false := decide_eq_false h
    have ea : valA ps f = (0, false) := if_neg (fun h' => h h'.1)
    rw [ea]
    go_enter Try.func22, Try.ntmps22
    go_wp2_with (first | (go_at_call 57; refine HI.out.mono ?_; rw [d0]; rintro e w1 ⟨rfl, k1⟩; dsimp only))
    go_ret2
    exact ⟨rfl, k1⟩

end Go.Proofs.Ytpnplfngglfpoaa
