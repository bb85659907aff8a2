/-
  Good samples.
-/
import Derived.Test.YtapfafibhjpkdaaLeaf15
namespace Go.Proofs.Ytapfafibhjpkdaa
open Go.ChangeShapes Go.WideShapes Go.ChangeAt Go.RowKit

set_option maxRecDepth 100000
set_option linter.unusedVariables false

theorem igain (x : Int) (w : World) : Calls Try.prog 43 #[.int .i64 x] w fun e w' => e = .returned (.bool (decide (0 ≤ x ∧ x ≤ 65536))) ∧ w' = w := by
  go_enter Try.func43, Try.ntmps43
  go_wp2
  all_goals
    go_ret
    exact ⟨ret_boolG (by first | (rw [Bool.eq_iff_iff]; simp; omega) | (simp; omega)), rfl⟩

def cutV (x : Int) : Int := if 32767 < x then 32767 else if x < -32767 then -32767 else x
theorem icut (x : Int) (w : World) : Calls Try.prog 54 #[.int .i64 x] w fun e w' => e = .returned (.int .i64 (cutV x)) ∧ w' = w := by
  by_cases h1 : 32767 < x
  · rw [show cutV x = 32767 by unfold cutV; rw [if_pos h1]]
    go_enter Try.func54, Try.ntmps54
    go_wp2
    go_ret
    exact ⟨rfl, rfl⟩
  · by_cases h2 : x < -32767
    · rw [show cutV x = -32767 by unfold cutV; rw [if_neg h1, if_pos h2]]
      go_enter Try.func54, Try.ntmps54
      go_wp2
      all_goals
        go_ret
        exact ⟨rfl, rfl⟩
    · rw [show cutV x = x by unfold cutV; rw [if_neg h1, if_neg h2]]
      go_enter Try.func54, Try.ntmps54
      go_wp2
      all_goals
        go_ret
        first | exact ⟨rfl, rfl⟩ | (refine ⟨ret_intG ?_, rfl⟩; first | omega | (split <;> omega))
theorem cut_id {x : Int} : (x == cutV x) = decide (-32767 ≤ x ∧ x ≤ 32767) := by
  rw [Bool.eq_iff_iff]
  simp only [beq_iff_eq, decide_eq_true_eq]
  unfold cutV
  repeat' split <;> omega
/-- Samples as a voice may have them. -/
def SampP (l : List Int) : Prop := (1 ≤ l.length ∧ l.length ≤ 200) ∧ ∀ (i : Nat) (x : Int), l[i]? = some x → -32767 ≤ x ∧ x ≤ 32767
def VoiceP (l : List Int) (a lf rt rk : Int) : Prop := SampP l ∧ (0 ≤ a ∧ a < l.length) ∧ (0 ≤ lf ∧ lf ≤ 65536) ∧ (0 ≤ rt ∧ rt ≤ 65536) ∧ (0 ≤ rk ∧ rk ≤ 100)
set_option maxHeartbeats 2000000 in
theorem isamples (l : List Int) (s : Value) (w : World) (hv : NumAt w s l) (hn : l.length ≤ 1048576) :
    Calls Try.prog 42 #[s] w fun e w' => e = .returned (.bool (dec (SampP l))) ∧ Kept w w' := by
  obtain ⟨ao, cap, hsl⟩ := row_nil hv
  subst hsl
  by_cases h1 : l.length < 1
  · go_enter Try.func42, Try.ntmps42
    go_wp2
    go_ret
    exact ⟨ret_boolG (dec_no fun h => by have := h.1; omega).symm, But.refl _ _ _⟩
  · by_cases h2 : 200 < l.length
    · go_enter Try.func42, Try.ntmps42
      go_wp2
      go_ret
      exact ⟨ret_boolG (dec_no fun h => by have := h.1; omega).symm, But.refl _ _ _⟩
    · go_enter Try.func42, Try.ntmps42
      go_wp2
      go_loopw [15] (fun i wr => ∃ (k : Nat), k ≤ l.length ∧ i = .int .i64 k ∧ Hid (∀ (i : Nat) (x : Int), i < k → l[i]? = some x → -32767 ≤ x ∧ x ≤ 32767) ∧ Kept w wr) (fun i _ => l.length - (intOf i).toNat)
      case atStart => exact ⟨0, by omega, rfl, fun i x hi => by omega, But.refl _ _ _⟩
      case round =>
        obtain ⟨k, hk, rfl, HB, hkp⟩ := hrel
        by_cases hlt : k < l.length
        · obtain ⟨p, hp⟩ : ∃ p, l[k]? = some p := ⟨_, List.getElem?_eq_getElem hlt⟩
          obtain ⟨g, o, cap1, ee, c0⟩ := num_get (hv.kept hkp) hp
          cases ee
          have HK : Hid _ := hkp
          have HP : Hid (l[k]? = some p) := hp
          clear hkp hp hv
          by_cases hq : -32767 ≤ p ∧ p ≤ 32767
          · have hc : (p == cutV p) = true := by rw [cut_id]; exact decide_eq_true hq
            repeat (first | (go_at_call 54; refine (icut _ _).mono ?_; rintro e w' ⟨rfl, rfl⟩; dsimp only) | go_values | go_skip | go_guarded | go_step | go_upon)
            refine ⟨⟨k + 1, hlt, by go_num, fun i x hi hx => ?_, HK.out⟩, by simp [intOf]; omega⟩
            by_cases hik : i = k
            · subst hik
              rw [HP.out] at hx
              cases hx
              exact hq
            · exact HB.out i x (by omega) hx
          · have hc : (p == cutV p) = false := by rw [cut_id]; exact decide_eq_false hq
            repeat (first | (go_at_call 54; refine (icut _ _).mono ?_; rintro e w' ⟨rfl, rfl⟩; dsimp only) | go_values | go_skip | go_guarded | go_step | go_upon)
            go_ret
            exact ⟨ret_boolG (dec_no fun h => hq (h.2 k p HP.out)).symm, HK.out⟩
        · have hke : k = l.length := by omega
          subst hke
          go_wp2
          go_ret
          exact ⟨ret_boolG (dec_yes ⟨by omega, fun i x hx => HB.out i x (List.getElem?_eq_some_iff.1 hx).1 hx⟩).symm, hkp⟩

end Go.Proofs.Ytapfafibhjpkdaa
