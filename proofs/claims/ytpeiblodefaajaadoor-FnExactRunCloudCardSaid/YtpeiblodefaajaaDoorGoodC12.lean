/-
  Which clouds are good, on both sides.
-/
import Derived.Test.YtpeiblodefaajaaDoorGood12
import Derived.Test.YtpeiblodefaajaaDoorCloud
import Derived.Test.YtpeiblodefaajaaDoorQuiet
namespace Go.Proofs.YtpeiblodefaajaaDoor
open Go.ChangeShapes Go.WideShapes Go.ChangeAt Go.RowKit

set_option maxRecDepth 100000
set_option linter.unusedVariables false
theorem sfixed (x : Int) (w : World) : Calls Tryd.prog 55 #[.int .i64 x] w fun e w' => e = .returned (.bool (decide (-1099511627776 ≤ x ∧ x ≤ 1099511627776))) ∧ w' = w := by
  go_enter Tryd.func55, Tryd.ntmps55
  go_wp2_with (go_at_call 31; refine (sIn _ _ _ _).mono ?_; rintro e w1 ⟨rfl, rfl⟩)
  all_goals
    go_ret
    exact ⟨ret_bool (by first | rfl | (rw [Bool.eq_iff_iff]; simp; done) | (rw [Bool.eq_iff_iff]; simp; omega) | (simp; omega)), rfl⟩
theorem ifixed (x : Int) (w : World) : Calls Tryd.prog 75 #[.int .i64 x] w fun e w' => e = .returned (.bool (decide (-1099511627776 ≤ x ∧ x ≤ 1099511627776))) ∧ w' = w := by
  go_enter Tryd.func75, Tryd.ntmps75
  go_wp2
  all_goals
    go_ret
    exact ⟨ret_bool (by first | rfl | (rw [Bool.eq_iff_iff]; simp; done) | (rw [Bool.eq_iff_iff]; simp; omega) | (simp; omega)), rfl⟩
theorem sseed (x : Int) (w : World) : Calls Tryd.prog 38 #[.int .i64 x] w fun e w' => e = .returned (.bool (decide (0 ≤ x ∧ x ≤ 2147483647))) ∧ w' = w := by
  go_enter Tryd.func38, Tryd.ntmps38
  go_wp2_with (go_at_call 31; refine (sIn _ _ _ _).mono ?_; rintro e w1 ⟨rfl, rfl⟩)
  all_goals
    go_ret
    exact ⟨ret_bool (by first | rfl | (rw [Bool.eq_iff_iff]; simp; done) | (rw [Bool.eq_iff_iff]; simp; omega) | (simp; omega)), rfl⟩
theorem iseed (x : Int) (w : World) : Calls Tryd.prog 36 #[.int .i64 x] w fun e w' => e = .returned (.bool (decide (0 ≤ x ∧ x ≤ 2147483647))) ∧ w' = w := by
  go_enter Tryd.func36, Tryd.ntmps36
  go_wp2
  all_goals
    go_ret
    exact ⟨ret_bool (by first | rfl | (rw [Bool.eq_iff_iff]; simp; done) | (rw [Bool.eq_iff_iff]; simp; omega) | (simp; omega)), rfl⟩
/-- A spark as the functions take it. -/
def SparkP (p : SparkD) : Prop := (-1099511627776 ≤ p.1 ∧ p.1 ≤ 1099511627776) ∧ (-1099511627776 ≤ p.2.1 ∧ p.2.1 ≤ 1099511627776) ∧ (-1099511627776 ≤ p.2.2.1 ∧ p.2.2.1 ≤ 1099511627776) ∧ (-1099511627776 ≤ p.2.2.2.1 ∧ p.2.2.2.1 ≤ 1099511627776) ∧ (1 ≤ p.2.2.2.2 ∧ p.2.2.2.2 ≤ 200)
instance (p : SparkD) : Decidable (SparkP p) := by unfold SparkP; infer_instance
theorem igoodS (a b c d e : Int) (w : World) : Calls Tryd.prog 54 #[.agg #[.int .i64 a, .int .i64 b, .int .i64 c, .int .i64 d, .int .i64 e]] w fun r w' => r = .returned (.bool (decide (SparkP (a, b, c, d, e)))) ∧ Kept w w' := by
  go_enter Tryd.func54, Tryd.ntmps54
  go_wp2_with (first | (go_at_call 75; refine (ifixed _ _).mono ?_; rintro e w1 ⟨rfl, rfl⟩) | (go_at_call 53; refine (ispan _ _).mono ?_; rintro e w1 ⟨rfl, rfl⟩))
  all_goals
    go_ret
    exact ⟨ret_bool (by first | exact (decide_eq_false (fun h => by simp only [SparkP] at h; omega)).symm | exact (decide_eq_true (by simp only [SparkP]; omega)).symm | (rw [Bool.eq_iff_iff]; simp only [decide_eq_true_iff]; simp only [SparkP]; omega) | (rw [Bool.eq_iff_iff]; simp only [Bool.and_eq_true, decide_eq_true_iff]; simp only [SparkP]; omega)), (But.refl _ _ _).alloc _⟩
/-- A cloud as the functions take it. -/
def CloudP (c : CloudD) : Prop := (0 ≤ c.1 ∧ c.1 ≤ 2147483647) ∧ (0 ≤ c.2.1 ∧ c.2.1 ≤ 200) ∧ c.2.2.length ≤ 60 ∧ ∀ p ∈ c.2.2, SparkP p
instance (c : CloudD) : Decidable (CloudP c) := by unfold CloudP; infer_instance
theorem cloud_no {sd st : Int} {ps : List SparkD} {k : Nat} {p : SparkD} (hp : ps[k]? = some p) (h : ¬ SparkP p) : decide (CloudP (sd, st, ps)) = false :=
  decide_eq_false fun hc => h (hc.2.2.2 p (List.mem_of_getElem? hp))
theorem cloud_yes {sd st : Int} {ps : List SparkD} (h1 : 0 ≤ sd ∧ sd ≤ 2147483647) (h2 : 0 ≤ st ∧ st ≤ 200) (h3 : ps.length ≤ 60) (h : ∀ j, j < ps.length → ∀ p, ps[j]? = some p → SparkP p) : decide (CloudP (sd, st, ps)) = true :=
  decide_eq_true ⟨h1, h2, h3, fun p hp => by
    obtain ⟨j, hj, e⟩ := List.mem_iff_getElem.1 hp
    exact h j hj p (by rw [List.getElem?_eq_getElem hj, e])⟩
set_option maxHeartbeats 4000000 in
theorem igoodC (sd st : Int) (ps : List SparkD) (ao : Option Addr) (cap : Nat) (w : World) (hv : SparkAt w (.slice ao ps.length cap) ps) (hn : ps.length ≤ 9000000000000000000) :
    Calls Tryd.prog 27 #[.agg #[.int .i64 sd, .int .i64 st, .slice ao ps.length cap]] w fun e w' => e = .returned (.bool (decide (CloudP (sd, st, ps)))) ∧ Kept w w' := by
  by_cases h1 : 0 ≤ sd ∧ sd ≤ 2147483647
  · have d1 : decide (0 ≤ sd ∧ sd ≤ 2147483647) = true := decide_eq_true h1
    by_cases h2 : 0 ≤ st ∧ st ≤ 200
    · have d2 : decide (st < 0) = false := by simp; omega
      have d3 : decide (200 < st) = false := by simp; omega
      by_cases h3 : ps.length ≤ 60
      · have d4 : decide ((60 : Int) < (ps.length : Int)) = false := by simp; omega
        go_enter Tryd.func27, Tryd.ntmps27
        go_wp2_with (go_at_call 36; refine (iseed _ _).mono ?_; rintro e w1 ⟨rfl, rfl⟩; rw [d1])
        clear d1 d2 d3 d4
        go_loopw [28] (fun i wr => ∃ k : Nat, k ≤ ps.length ∧ i = .int .i64 k ∧ Hid (∀ j, j < k → ∀ p, ps[j]? = some p → SparkP p) ∧ Kept w wr) (fun i _ => ps.length - (intOf i).toNat)
        case atStart => exact ⟨0, by omega, rfl, fun j hj => by omega, (But.refl _ _ _).alloc _⟩
        case round =>
          obtain ⟨k, hk, rfl, HB, hkp⟩ := hrel
          by_cases hlt : k < ps.length
          · obtain ⟨⟨a, b, c, d, e⟩, hp⟩ : ∃ p, ps[k]? = some p := ⟨_, List.getElem?_eq_getElem hlt⟩
            obtain ⟨g, o, cap1, ee, c0, c1, c2, c3, c4⟩ := spark_get (hv.kept hkp) hp
            cases ee
            dsimp only at c0 c1 c2 c3 c4
            have HK : Hid _ := hkp
            have HP : Hid _ := hp
            clear hkp hp hv
            cases q : decide (SparkP (a, b, c, d, e)) with
            | false =>
              repeat (first | (go_at_call 54; refine (igoodS _ _ _ _ _ _).mono ?_; rintro e w3 ⟨rfl, k3⟩; rw [q]; dsimp only) | go_values | go_skip | go_guarded | go_step | go_upon)
              go_ret
              exact ⟨ret_bool (cloud_no HP.out (of_decide_eq_false q)).symm, (HK.out.alloc _).trans k3⟩
            | true =>
              repeat (first | (go_at_call 54; refine (igoodS _ _ _ _ _ _).mono ?_; rintro e w3 ⟨rfl, k3⟩; rw [q]; dsimp only) | go_values | go_skip | go_guarded | go_step | go_upon)
              refine ⟨⟨k + 1, hlt, by go_num, ?_, (HK.out.alloc _).trans k3⟩, by simp [intOf]; omega⟩
              intro j hj p hp
              by_cases hjk : j = k
              · subst hjk
                rw [HP.out] at hp
                cases hp
                exact of_decide_eq_true q
              · exact HB.out j (by omega) p hp
          · have hke : k = ps.length := by omega
            subst hke
            have HKP : Hid _ := hkp
            clear hkp
            go_wp2
            go_ret
            exact ⟨ret_bool (cloud_yes h1 h2 h3 HB.out).symm, HKP.out⟩
      · have d4 : decide ((60 : Int) < (ps.length : Int)) = true := by simp; omega
        go_enter Tryd.func27, Tryd.ntmps27
        go_wp2_with (go_at_call 36; refine (iseed _ _).mono ?_; rintro e w1 ⟨rfl, rfl⟩; rw [d1])
        go_ret
        exact ⟨ret_bool (decide_eq_false fun h => h3 h.2.2.1).symm, (But.refl _ _ _).alloc _⟩
    · have hx : decide (CloudP (sd, st, ps)) = false := decide_eq_false fun h => h2 h.2.1
      rw [hx]
      by_cases h3 : st < 0
      · go_enter Tryd.func27, Tryd.ntmps27
        go_wp2_with (go_at_call 36; refine (iseed _ _).mono ?_; rintro e w1 ⟨rfl, rfl⟩; rw [d1])
        go_ret
        exact ⟨rfl, (But.refl _ _ _).alloc _⟩
      · have d2 : decide (st < 0) = false := by simp; omega
        have d3 : decide (200 < st) = true := by simp; omega
        go_enter Tryd.func27, Tryd.ntmps27
        go_wp2_with (go_at_call 36; refine (iseed _ _).mono ?_; rintro e w1 ⟨rfl, rfl⟩; rw [d1])
        go_ret
        exact ⟨rfl, (But.refl _ _ _).alloc _⟩
  · have hx : decide (CloudP (sd, st, ps)) = false := decide_eq_false fun h => h1 h.1
    rw [hx]
    have d1 : decide (0 ≤ sd ∧ sd ≤ 2147483647) = false := decide_eq_false h1
    go_enter Tryd.func27, Tryd.ntmps27
    go_wp2_with (go_at_call 36; refine (iseed _ _).mono ?_; rintro e w1 ⟨rfl, rfl⟩; rw [d1])
    go_ret
    exact ⟨rfl, (But.refl _ _ _).alloc _⟩
set_option maxHeartbeats 4000000 in
theorem sgoodC (sd st : Int) (ps : List SparkD) (ao : Option Addr) (cap : Nat) (w : World) (hv : SparkAt w (.slice ao ps.length cap) ps) (hn : ps.length ≤ 9000000000000000000) :
    Calls Tryd.prog 30 #[.agg #[.int .i64 sd, .int .i64 st, .slice ao ps.length cap]] w fun e w' => e = .returned (.bool (decide (CloudP (sd, st, ps)))) ∧ Kept w w' := by
  by_cases h1 : 0 ≤ sd ∧ sd ≤ 2147483647
  · have d1 : decide (0 ≤ sd ∧ sd ≤ 2147483647) = true := decide_eq_true h1
    by_cases h2 : 0 ≤ st ∧ st ≤ 200
    · have d2 : decide (0 ≤ st ∧ st ≤ 200) = true := decide_eq_true h2
      by_cases h3 : ps.length ≤ 60
      · have d4 : decide ((60 : Int) < (ps.length : Int)) = false := by simp; omega
        go_enter Tryd.func30, Tryd.ntmps30
        go_wp2_with (first | (go_at_call 38; refine (sseed _ _).mono ?_; rintro e w1 ⟨rfl, rfl⟩; rw [d1]) | (go_at_call 31; refine (sIn _ _ _ _).mono ?_; rintro e w1 ⟨rfl, rfl⟩; rw [d2]))
        clear d1 d2 d4
        go_loopw [24] (fun i wr => ∃ k : Nat, k ≤ ps.length ∧ i = .int .i64 k ∧ Hid (∀ j, j < k → ∀ p, ps[j]? = some p → SparkP p) ∧ Kept w wr) (fun i _ => ps.length - (intOf i).toNat)
        case atStart => exact ⟨0, by omega, rfl, fun j hj => by omega, (But.refl _ _ _).alloc _⟩
        case round =>
          obtain ⟨k, hk, rfl, HB, hkp⟩ := hrel
          by_cases hlt : k < ps.length
          · obtain ⟨⟨a, b, c, d, e⟩, hp⟩ : ∃ p, ps[k]? = some p := ⟨_, List.getElem?_eq_getElem hlt⟩
            obtain ⟨g, o, cap1, ee, c0, c1, c2, c3, c4⟩ := spark_get (hv.kept hkp) hp
            cases ee
            dsimp only at c0 c1 c2 c3 c4
            have HK : Hid _ := hkp
            have HP : Hid _ := hp
            have HH : Hid _ := And.intro h1 (And.intro h2 h3)
            clear hkp hp hv h1 h2 h3
            cases q1 : decide (-1099511627776 ≤ a ∧ a ≤ 1099511627776) with
            | false =>
              repeat (first | (go_at_call 55; refine (sfixed _ _).mono ?_; rintro e3 w3 ⟨rfl, rfl⟩; (first | rw [q1]); dsimp only) | go_values | go_skip | go_guarded | go_step | go_upon)
              go_ret
              exact ⟨ret_bool (cloud_no HP.out fun h => (of_decide_eq_false q1) h.1).symm, HK.out.alloc _⟩
            | true =>
              cases q2 : decide (-1099511627776 ≤ b ∧ b ≤ 1099511627776) with
              | false =>
                repeat (first | (go_at_call 55; refine (sfixed _ _).mono ?_; rintro e3 w3 ⟨rfl, rfl⟩; (first | rw [q1] | rw [q2]); dsimp only) | go_values | go_skip | go_guarded | go_step | go_upon)
                go_ret
                exact ⟨ret_bool (cloud_no HP.out fun h => (of_decide_eq_false q2) h.2.1).symm, HK.out.alloc _⟩
              | true =>
                cases q3 : decide (-1099511627776 ≤ c ∧ c ≤ 1099511627776) with
                | false =>
                  repeat (first | (go_at_call 55; refine (sfixed _ _).mono ?_; rintro e3 w3 ⟨rfl, rfl⟩; (first | rw [q1] | rw [q2] | rw [q3]); dsimp only) | go_values | go_skip | go_guarded | go_step | go_upon)
                  go_ret
                  exact ⟨ret_bool (cloud_no HP.out fun h => (of_decide_eq_false q3) h.2.2.1).symm, HK.out.alloc _⟩
                | true =>
                  cases q4 : decide (-1099511627776 ≤ d ∧ d ≤ 1099511627776) with
                  | false =>
                    repeat (first | (go_at_call 55; refine (sfixed _ _).mono ?_; rintro e3 w3 ⟨rfl, rfl⟩; (first | rw [q1] | rw [q2] | rw [q3] | rw [q4]); dsimp only) | go_values | go_skip | go_guarded | go_step | go_upon)
                    go_ret
                    exact ⟨ret_bool (cloud_no HP.out fun h => (of_decide_eq_false q4) h.2.2.2.1).symm, HK.out.alloc _⟩
                  | true =>
                    cases q5 : decide (1 ≤ e ∧ e ≤ 200) with
                    | false =>
                      repeat (first | (go_at_call 55; refine (sfixed _ _).mono ?_; rintro e3 w3 ⟨rfl, rfl⟩; (first | rw [q1] | rw [q2] | rw [q3] | rw [q4]); dsimp only) | (go_at_call 31; refine (sIn _ _ _ _).mono ?_; rintro e3 w3 ⟨rfl, rfl⟩; rw [q5]; dsimp only) | go_values | go_skip | go_guarded | go_step | go_upon)
                      go_ret
                      exact ⟨ret_bool (cloud_no HP.out fun h => (of_decide_eq_false q5) h.2.2.2.2).symm, HK.out.alloc _⟩
                    | true =>
                      repeat (first | (go_at_call 55; refine (sfixed _ _).mono ?_; rintro e3 w3 ⟨rfl, rfl⟩; (first | rw [q1] | rw [q2] | rw [q3] | rw [q4]); dsimp only) | (go_at_call 31; refine (sIn _ _ _ _).mono ?_; rintro e3 w3 ⟨rfl, rfl⟩; rw [q5]; dsimp only) | go_values | go_skip | go_guarded | go_step | go_upon)
                      refine ⟨⟨k + 1, hlt, by go_num, ?_, HK.out.alloc _⟩, by simp [intOf]; omega⟩
                      intro j hj p hp
                      by_cases hjk : j = k
                      · subst hjk
                        rw [HP.out] at hp
                        cases hp
                        exact ⟨of_decide_eq_true q1, of_decide_eq_true q2, of_decide_eq_true q3, of_decide_eq_true q4, of_decide_eq_true q5⟩
                      · exact HB.out j (by omega) p hp
          · have hke : k = ps.length := by omega
            subst hke
            have HKP : Hid _ := hkp
            clear hkp
            go_wp2
            go_ret
            exact ⟨ret_bool (cloud_yes h1 h2 h3 HB.out).symm, HKP.out⟩
      · have d4 : decide ((60 : Int) < (ps.length : Int)) = true := by simp; omega
        go_enter Tryd.func30, Tryd.ntmps30
        go_wp2_with (first | (go_at_call 38; refine (sseed _ _).mono ?_; rintro e w1 ⟨rfl, rfl⟩; rw [d1]) | (go_at_call 31; refine (sIn _ _ _ _).mono ?_; rintro e w1 ⟨rfl, rfl⟩; rw [d2]))
        go_ret
        exact ⟨ret_bool (decide_eq_false fun h => h3 h.2.2.1).symm, (But.refl _ _ _).alloc _⟩
    · have hx : decide (CloudP (sd, st, ps)) = false := decide_eq_false fun h => h2 h.2.1
      rw [hx]
      have d2 : decide (0 ≤ st ∧ st ≤ 200) = false := decide_eq_false h2
      go_enter Tryd.func30, Tryd.ntmps30
      go_wp2_with (first | (go_at_call 38; refine (sseed _ _).mono ?_; rintro e w1 ⟨rfl, rfl⟩; rw [d1]) | (go_at_call 31; refine (sIn _ _ _ _).mono ?_; rintro e w1 ⟨rfl, rfl⟩; rw [d2]))
      go_ret
      exact ⟨rfl, (But.refl _ _ _).alloc _⟩
  · have hx : decide (CloudP (sd, st, ps)) = false := decide_eq_false fun h => h1 h.1
    rw [hx]
    have d1 : decide (0 ≤ sd ∧ sd ≤ 2147483647) = false := decide_eq_false h1
    go_enter Tryd.func30, Tryd.ntmps30
    go_wp2_with (go_at_call 38; refine (sseed _ _).mono ?_; rintro e w1 ⟨rfl, rfl⟩; rw [d1])
    go_ret
    exact ⟨rfl, (But.refl _ _ _).alloc _⟩

end Go.Proofs.YtpeiblodefaajaaDoor
