/-
  Good voices in the specification.
-/
import Derived.Test.YtapfafibhjpkdaaSamp15
namespace Go.Proofs.Ytapfafibhjpkdaa
open Go.ChangeShapes Go.WideShapes Go.ChangeAt Go.RowKit

set_option maxRecDepth 100000
set_option linter.unusedVariables false

set_option maxHeartbeats 4000000 in
theorem sgoodV (s : Value) (l : List Int) (a : Int) (lp : Bool) (lf rt rk : Int) (w : World) (hv : NumAt w s l) (hn : l.length ≤ 1048576) :
    Calls Try.prog 10 #[.agg #[s, .int .i64 a, .bool lp, .int .i64 lf, .int .i64 rt, .int .i64 rk]] w fun e w' => e = .returned (.bool (dec (VoiceP l a lf rt rk))) ∧ Kept w w' := by
  obtain ⟨ao, cap, hsl⟩ := row_nil hv
  subst hsl
  by_cases h0 : 1 ≤ l.length
  case neg =>
    have d0 : decide ((l.length : Int) < 1) = true := by simp; omega
    go_enter Try.func10, Try.ntmps10
    repeat (first | (go_at_call 40; refine (sInG _ _ _ _).mono ?_; rintro e w' ⟨rfl, rfl⟩; (first | rw [d2] | rw [d3] | rw [d4] | rw [d5]); dsimp only) | go_values | go_skip | go_guarded | go_step | go_upon)
    go_ret
    exact ⟨ret_boolG (dec_no fun h => h0 (by have := h.1.1; omega)).symm, (But.refl _ _ _).alloc _⟩
  have d0 : decide ((l.length : Int) < 1) = false := by simp; omega
  by_cases h1 : l.length ≤ 200
  case neg =>
    have d1 : decide (200 < (l.length : Int)) = true := by simp; omega
    go_enter Try.func10, Try.ntmps10
    repeat (first | (go_at_call 40; refine (sInG _ _ _ _).mono ?_; rintro e w' ⟨rfl, rfl⟩; (first | rw [d2] | rw [d3] | rw [d4] | rw [d5]); dsimp only) | go_values | go_skip | go_guarded | go_step | go_upon)
    go_ret
    exact ⟨ret_boolG (dec_no fun h => h1 (by have := h.1.1; omega)).symm, (But.refl _ _ _).alloc _⟩
  have d1 : decide (200 < (l.length : Int)) = false := by simp; omega
  by_cases h2 : 0 ≤ a ∧ a ≤ (l.length : Int) - 1
  case neg =>
    have d2 : decide (0 ≤ a ∧ a ≤ (l.length : Int) - 1) = false := by simp; omega
    go_enter Try.func10, Try.ntmps10
    repeat (first | (go_at_call 40; refine (sInG _ _ _ _).mono ?_; rintro e w' ⟨rfl, rfl⟩; (first | rw [d2] | rw [d3] | rw [d4] | rw [d5]); dsimp only) | go_values | go_skip | go_guarded | go_step | go_upon)
    go_ret
    exact ⟨ret_boolG (dec_no fun h => h2 (by have := h.2.1; omega)).symm, (But.refl _ _ _).alloc _⟩
  have d2 : decide (0 ≤ a ∧ a ≤ (l.length : Int) - 1) = true := by simp; omega
  by_cases h3 : 0 ≤ lf ∧ lf ≤ 65536
  case neg =>
    have d3 : decide (0 ≤ lf ∧ lf ≤ 65536) = false := by simp; omega
    go_enter Try.func10, Try.ntmps10
    repeat (first | (go_at_call 40; refine (sInG _ _ _ _).mono ?_; rintro e w' ⟨rfl, rfl⟩; (first | rw [d2] | rw [d3] | rw [d4] | rw [d5]); dsimp only) | go_values | go_skip | go_guarded | go_step | go_upon)
    go_ret
    exact ⟨ret_boolG (dec_no fun h => h3 (h.2.2.1)).symm, (But.refl _ _ _).alloc _⟩
  have d3 : decide (0 ≤ lf ∧ lf ≤ 65536) = true := by simp; omega
  by_cases h4 : 0 ≤ rt ∧ rt ≤ 65536
  case neg =>
    have d4 : decide (0 ≤ rt ∧ rt ≤ 65536) = false := by simp; omega
    go_enter Try.func10, Try.ntmps10
    repeat (first | (go_at_call 40; refine (sInG _ _ _ _).mono ?_; rintro e w' ⟨rfl, rfl⟩; (first | rw [d2] | rw [d3] | rw [d4] | rw [d5]); dsimp only) | go_values | go_skip | go_guarded | go_step | go_upon)
    go_ret
    exact ⟨ret_boolG (dec_no fun h => h4 (h.2.2.2.1)).symm, (But.refl _ _ _).alloc _⟩
  have d4 : decide (0 ≤ rt ∧ rt ≤ 65536) = true := by simp; omega
  by_cases h5 : 0 ≤ rk ∧ rk ≤ 100
  case neg =>
    have d5 : decide (0 ≤ rk ∧ rk ≤ 100) = false := by simp; omega
    go_enter Try.func10, Try.ntmps10
    repeat (first | (go_at_call 40; refine (sInG _ _ _ _).mono ?_; rintro e w' ⟨rfl, rfl⟩; (first | rw [d2] | rw [d3] | rw [d4] | rw [d5]); dsimp only) | go_values | go_skip | go_guarded | go_step | go_upon)
    go_ret
    exact ⟨ret_boolG (dec_no fun h => h5 (h.2.2.2.2)).symm, (But.refl _ _ _).alloc _⟩
  have d5 : decide (0 ≤ rk ∧ rk ≤ 100) = true := by simp; omega
  have hw : Kept w (w.alloc (.cells #[.slice ao l.length cap, .int .i64 a, .bool lp, .int .i64 lf, .int .i64 rt, .int .i64 rk] 27)) := (But.refl _ _ _).alloc _
  go_enter Try.func10, Try.ntmps10
  repeat (first | (go_at_call 40; refine (sInG _ _ _ _).mono ?_; rintro e w' ⟨rfl, rfl⟩; (first | rw [d2] | rw [d3] | rw [d4] | rw [d5]); dsimp only) | go_values | go_skip | go_guarded | go_step | go_upon)
  clear d0 d1 d2 d3 d4 d5
  have hv' := hv.kept hw
  clear hv
  generalize w.alloc (.cells #[.slice ao l.length cap, .int .i64 a, .bool lp, .int .i64 lf, .int .i64 rt, .int .i64 rk] 27) = W at *
  go_loopw [46] (fun i wr => ∃ (k : Nat), k ≤ l.length ∧ i = .int .i64 k ∧ Hid (∀ (i : Nat) (x : Int), i < k → l[i]? = some x → -32767 ≤ x ∧ x ≤ 32767) ∧ Kept W wr) (fun i _ => l.length - (intOf i).toNat)
  case atStart => exact ⟨0, by omega, rfl, fun i x hi => by omega, But.refl _ _ _⟩
  case round =>
    obtain ⟨k, hk, rfl, HB, hkp⟩ := hrel
    by_cases hlt : k < l.length
    · obtain ⟨p, hp⟩ : ∃ p, l[k]? = some p := ⟨_, List.getElem?_eq_getElem hlt⟩
      obtain ⟨g, o, cap1, ee, c0⟩ := num_get (hv'.kept hkp) hp
      cases ee
      have HK : Hid _ := hkp
      have HP : Hid (l[k]? = some p) := hp
      clear hkp hp hv'
      by_cases hq : -32767 ≤ p ∧ p ≤ 32767
      · have hc : decide (-32767 ≤ p ∧ p ≤ 32767) = true := decide_eq_true hq
        repeat (first | (go_at_call 40; refine (sInG _ _ _ _).mono ?_; rintro e w' ⟨rfl, rfl⟩; rw [hc]; dsimp only) | go_values | go_skip | go_guarded | go_step | go_upon)
        refine ⟨⟨k + 1, hlt, by go_num, fun i x hi hx => ?_, HK.out⟩, by simp [intOf]; omega⟩
        by_cases hik : i = k
        · subst hik
          rw [HP.out] at hx
          cases hx
          exact hq
        · exact HB.out i x (by omega) hx
      · have hc : decide (-32767 ≤ p ∧ p ≤ 32767) = false := decide_eq_false hq
        repeat (first | (go_at_call 40; refine (sInG _ _ _ _).mono ?_; rintro e w' ⟨rfl, rfl⟩; rw [hc]; dsimp only) | go_values | go_skip | go_guarded | go_step | go_upon)
        go_ret
        exact ⟨ret_boolG (dec_no fun h => hq (h.1.2 k p HP.out)).symm, hw.trans HK.out⟩
    · have hke : k = l.length := by omega
      subst hke
      go_wp2
      go_ret
      exact ⟨ret_boolG (dec_yes ⟨⟨⟨h0, h1⟩, fun i x hx => HB.out i x (List.getElem?_eq_some_iff.1 hx).1 hx⟩, by omega, h3, h4, h5⟩).symm, hw.trans hkp⟩

end Go.Proofs.Ytapfafibhjpkdaa
