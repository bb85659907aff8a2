/-
  Which blocks are good, on both sides.
-/
import Derived.Test.YtnfkgnbhdhpnmaaRows
import Derived.Test.YtnfkgnbhdhpnmaaBlocks
import Derived.Test.YtnfkgnbhdhpnmaaQuiet
import Derived.WalkKit
import Derived.ProofKit
import Derived.OpenShut
import Derived.Handy
namespace Go.Proofs.Ytnfkgnbhdhpnmaa
open Go.ChangeShapes Go.WideShapes Go.ChangeAt Go.RowKit

set_option maxRecDepth 100000
set_option linter.unusedVariables false
theorem ret_bool {a b : Bool} (h : a = b) : Ending.returned (.bool a) = .returned (.bool b) := by rw [h]
theorem sIn (x lo hi : Int) (w : World) : Calls Try.prog 45 #[.int .i64 x, .int .i64 lo, .int .i64 hi] w fun e w' => e = .returned (.bool (decide (lo ≤ x ∧ x ≤ hi))) ∧ w' = w := by
  go_enter Try.func45, Try.ntmps45
  go_wp2
  all_goals
    go_ret
    exact ⟨ret_bool (by first | (rw [Bool.eq_iff_iff]; simp; omega) | (simp; omega)), rfl⟩
theorem iedge (x : Int) (w : World) : Calls Try.prog 46 #[.int .i64 x] w fun e w' => e = .returned (.bool (decide (1 ≤ x ∧ x ≤ 8))) ∧ w' = w := by
  go_enter Try.func46, Try.ntmps46
  go_wp2
  all_goals
    go_ret
    exact ⟨ret_bool (by first | (rw [Bool.eq_iff_iff]; simp; omega) | (simp; omega)), rfl⟩
theorem ikind (x : Int) (w : World) : Calls Try.prog 47 #[.int .i64 x] w fun e w' => e = .returned (.bool (decide (0 ≤ x ∧ x ≤ 9))) ∧ w' = w := by
  go_enter Try.func47, Try.ntmps47
  go_wp2
  all_goals
    go_ret
    exact ⟨ret_bool (by first | (rw [Bool.eq_iff_iff]; simp; omega) | (simp; omega)), rfl⟩

/-- Blocks as the functions take them. -/
def BlocksP (a b d : Int) (l : List Int) : Prop := (1 ≤ a ∧ a ≤ 8) ∧ (1 ≤ b ∧ b ≤ 8) ∧ (1 ≤ d ∧ d ≤ 8) ∧ (l.length : Int) = a * b * d ∧ ∀ p ∈ l, 0 ≤ p ∧ p ≤ 9
instance (a b d : Int) (l : List Int) : Decidable (BlocksP a b d l) := by unfold BlocksP; infer_instance
theorem mul_in {x y m k : Int} (h1 : 1 ≤ x) (h2 : x ≤ m) (h3 : 1 ≤ y) (h4 : y ≤ k) : 1 ≤ x * y ∧ x * y ≤ m * k := by
  have e1 : 1 * 1 ≤ x * y := Int.mul_le_mul h1 h3 (by omega) (by omega)
  have e2 : x * y ≤ m * k := Int.mul_le_mul h2 h4 (by omega) (by omega)
  omega
theorem vol_in {a b d : Int} (h1 : 1 ≤ a ∧ a ≤ 8) (h2 : 1 ≤ b ∧ b ≤ 8) (h3 : 1 ≤ d ∧ d ≤ 8) : (1 ≤ a * b ∧ a * b ≤ 64) ∧ (1 ≤ a * b * d ∧ a * b * d ≤ 512) := by
  have e1 := mul_in h1.1 h1.2 h2.1 h2.2
  have e2 := mul_in e1.1 e1.2 h3.1 h3.2
  omega
theorem blocks_no {a b d : Int} {l : List Int} {k : Nat} {p : Int} (hp : l[k]? = some p) (h : ¬ (0 ≤ p ∧ p ≤ 9)) : decide (BlocksP a b d l) = false :=
  decide_eq_false fun hc => h (hc.2.2.2.2 p (List.mem_of_getElem? hp))
theorem blocks_yes {a b d : Int} {l : List Int} (h1 : 1 ≤ a ∧ a ≤ 8) (h2 : 1 ≤ b ∧ b ≤ 8) (h3 : 1 ≤ d ∧ d ≤ 8) (h4 : (l.length : Int) = a * b * d) (h : ∀ j, j < l.length → ∀ p, l[j]? = some p → 0 ≤ p ∧ p ≤ 9) : decide (BlocksP a b d l) = true :=
  decide_eq_true ⟨h1, h2, h3, h4, fun p hp => by
    obtain ⟨j, hj, e⟩ := List.mem_iff_getElem.1 hp
    exact h j hj p (by rw [List.getElem?_eq_getElem hj, e])⟩

set_option maxHeartbeats 4000000 in
theorem sgood (a b d : Int) (l : List Int) (ao : Option Addr) (cap : Nat) (w : World) (hv : NumAt w (.slice ao l.length cap) l) (hn : l.length ≤ 9000000000000000000) :
    Calls Try.prog 17 #[.agg #[.int .i64 a, .int .i64 b, .int .i64 d, .slice ao l.length cap]] w fun e w' => e = .returned (.bool (decide (BlocksP a b d l))) ∧ Kept w w' := by
  by_cases h1 : 1 ≤ a ∧ a ≤ 8
  · have d1 : decide (1 ≤ a ∧ a ≤ 8) = true := decide_eq_true h1
    by_cases h2 : 1 ≤ b ∧ b ≤ 8
    · have d2 : decide (1 ≤ b ∧ b ≤ 8) = true := decide_eq_true h2
      by_cases h3 : 1 ≤ d ∧ d ≤ 8
      · have d3 : decide (1 ≤ d ∧ d ≤ 8) = true := decide_eq_true h3
        obtain ⟨⟨m1, m2⟩, m3, m4⟩ := vol_in h1 h2 h3
        by_cases h4 : (l.length : Int) = a * b * d
        · have d4 : a * b * d = (l.length : Int) := h4.symm
          have H4 : Hid _ := And.intro h4 (And.intro h1 (And.intro h2 h3))
          clear h4
          go_enter Try.func17, Try.ntmps17
          go_wp2_with (go_at_call 45; refine (sIn _ _ _ _).mono ?_; rintro e w1 ⟨rfl, rfl⟩; (first | rw [d1] | rw [d2] | rw [d3]))
          clear d1 d2 d3 d4 m1 m2 m3 m4 h1 h2 h3
          go_loopw [38] (fun i wr => ∃ k : Nat, k ≤ l.length ∧ i = .int .i64 k ∧ Hid (∀ j, j < k → ∀ p, l[j]? = some p → 0 ≤ p ∧ p ≤ 9) ∧ Kept w wr) (fun i _ => l.length - (intOf i).toNat)
          case atStart => exact ⟨0, by omega, rfl, fun j hj => by omega, (But.refl _ _ _).alloc _⟩
          case round =>
            obtain ⟨k, hk, rfl, HB, hkp⟩ := hrel
            by_cases hlt : k < l.length
            · obtain ⟨p, hp⟩ : ∃ p, l[k]? = some p := ⟨_, List.getElem?_eq_getElem hlt⟩
              obtain ⟨g, o, cap1, ee, c0⟩ := num_get (hv.kept hkp) hp
              cases ee
              have HK : Hid _ := hkp
              have HP : Hid _ := hp
              clear hkp hp hv
              cases q : decide (0 ≤ p ∧ p ≤ 9) with
              | false =>
                repeat (first | (go_at_call 45; refine (sIn _ _ _ _).mono ?_; rintro e w3 ⟨rfl, rfl⟩; rw [q]; dsimp only) | go_values | go_skip | go_guarded | go_step | go_upon)
                go_ret
                exact ⟨ret_bool (blocks_no HP.out (of_decide_eq_false q)).symm, HK.out⟩
              | true =>
                repeat (first | (go_at_call 45; refine (sIn _ _ _ _).mono ?_; rintro e w3 ⟨rfl, rfl⟩; rw [q]; dsimp only) | go_values | go_skip | go_guarded | go_step | go_upon)
                refine ⟨⟨k + 1, hlt, by go_num, ?_, HK.out⟩, by simp [intOf]; omega⟩
                intro j hj p hp
                by_cases hjk : j = k
                · subst hjk
                  rw [HP.out] at hp
                  cases hp
                  exact of_decide_eq_true q
                · exact HB.out j (by omega) p hp
            · have hke : k = l.length := by omega
              subst hke
              have HKP : Hid _ := hkp
              clear hkp
              go_wp2
              go_ret
              obtain ⟨h4, h1, h2, h3⟩ := H4.out
              exact ⟨ret_bool (blocks_yes h1 h2 h3 h4 HB.out).symm, HKP.out⟩
        · have hx : decide (BlocksP a b d l) = false := decide_eq_false fun h => h4 h.2.2.2.1
          rw [hx]
          have d4 : ((l.length : Int) == a * b * d) = false := by simpa using h4
          go_enter Try.func17, Try.ntmps17
          go_wp2_with (go_at_call 45; refine (sIn _ _ _ _).mono ?_; rintro e w1 ⟨rfl, rfl⟩; (first | rw [d1] | rw [d2] | rw [d3]))
          go_ret
          exact ⟨rfl, (But.refl _ _ _).alloc _⟩
      · have hx : decide (BlocksP a b d l) = false := decide_eq_false fun h => h3 h.2.2.1
        rw [hx]
        have d3 : decide (1 ≤ d ∧ d ≤ 8) = false := decide_eq_false h3
        go_enter Try.func17, Try.ntmps17
        go_wp2_with (go_at_call 45; refine (sIn _ _ _ _).mono ?_; rintro e w1 ⟨rfl, rfl⟩; (first | rw [d1] | rw [d2] | rw [d3]))
        go_ret
        exact ⟨rfl, (But.refl _ _ _).alloc _⟩
    · have hx : decide (BlocksP a b d l) = false := decide_eq_false fun h => h2 h.2.1
      rw [hx]
      have d2 : decide (1 ≤ b ∧ b ≤ 8) = false := decide_eq_false h2
      go_enter Try.func17, Try.ntmps17
      go_wp2_with (go_at_call 45; refine (sIn _ _ _ _).mono ?_; rintro e w1 ⟨rfl, rfl⟩; (first | rw [d1] | rw [d2]))
      go_ret
      exact ⟨rfl, (But.refl _ _ _).alloc _⟩
  · have hx : decide (BlocksP a b d l) = false := decide_eq_false fun h => h1 h.1
    rw [hx]
    have d1 : decide (1 ≤ a ∧ a ≤ 8) = false := decide_eq_false h1
    go_enter Try.func17, Try.ntmps17
    go_wp2_with (go_at_call 45; refine (sIn _ _ _ _).mono ?_; rintro e w1 ⟨rfl, rfl⟩; (first | rw [d1]))
    go_ret
    exact ⟨rfl, (But.refl _ _ _).alloc _⟩

set_option maxHeartbeats 4000000 in
theorem igood (a b d : Int) (l : List Int) (ao : Option Addr) (cap : Nat) (w : World) (hv : NumAt w (.slice ao l.length cap) l) (hn : l.length ≤ 9000000000000000000) :
    Calls Try.prog 19 #[.agg #[.int .i64 a, .int .i64 b, .int .i64 d, .slice ao l.length cap]] w fun e w' => e = .returned (.bool (decide (BlocksP a b d l))) ∧ Kept w w' := by
  by_cases h1 : 1 ≤ a ∧ a ≤ 8
  · have d1 : decide (1 ≤ a ∧ a ≤ 8) = true := decide_eq_true h1
    by_cases h2 : 1 ≤ b ∧ b ≤ 8
    · have d2 : decide (1 ≤ b ∧ b ≤ 8) = true := decide_eq_true h2
      by_cases h3 : 1 ≤ d ∧ d ≤ 8
      · have d3 : decide (1 ≤ d ∧ d ≤ 8) = true := decide_eq_true h3
        obtain ⟨⟨m1, m2⟩, m3, m4⟩ := vol_in h1 h2 h3
        by_cases h4 : (l.length : Int) = a * b * d
        · have d4 : a * b * d = (l.length : Int) := h4.symm
          have H4 : Hid _ := And.intro h4 (And.intro h1 (And.intro h2 h3))
          clear h4
          go_enter Try.func19, Try.ntmps19
          go_wp2_with (go_at_call 46; refine (iedge _ _).mono ?_; rintro e w1 ⟨rfl, rfl⟩; (first | rw [d1] | rw [d2] | rw [d3]))
          clear d1 d2 d3 d4 m1 m2 m3 m4 h1 h2 h3
          go_loopw [38] (fun i wr => ∃ k : Nat, k ≤ l.length ∧ i = .int .i64 k ∧ Hid (∀ j, j < k → ∀ p, l[j]? = some p → 0 ≤ p ∧ p ≤ 9) ∧ Kept w wr) (fun i _ => l.length - (intOf i).toNat)
          case atStart => exact ⟨0, by omega, rfl, fun j hj => by omega, (But.refl _ _ _).alloc _⟩
          case round =>
            obtain ⟨k, hk, rfl, HB, hkp⟩ := hrel
            by_cases hlt : k < l.length
            · obtain ⟨p, hp⟩ : ∃ p, l[k]? = some p := ⟨_, List.getElem?_eq_getElem hlt⟩
              obtain ⟨g, o, cap1, ee, c0⟩ := num_get (hv.kept hkp) hp
              cases ee
              have HK : Hid _ := hkp
              have HP : Hid _ := hp
              clear hkp hp hv
              cases q : decide (0 ≤ p ∧ p ≤ 9) with
              | false =>
                repeat (first | (go_at_call 47; refine (ikind _ _).mono ?_; rintro e w3 ⟨rfl, rfl⟩; rw [q]; dsimp only) | go_values | go_skip | go_guarded | go_step | go_upon)
                go_ret
                exact ⟨ret_bool (blocks_no HP.out (of_decide_eq_false q)).symm, HK.out⟩
              | true =>
                repeat (first | (go_at_call 47; refine (ikind _ _).mono ?_; rintro e w3 ⟨rfl, rfl⟩; rw [q]; dsimp only) | go_values | go_skip | go_guarded | go_step | go_upon)
                refine ⟨⟨k + 1, hlt, by go_num, ?_, HK.out⟩, by simp [intOf]; omega⟩
                intro j hj p hp
                by_cases hjk : j = k
                · subst hjk
                  rw [HP.out] at hp
                  cases hp
                  exact of_decide_eq_true q
                · exact HB.out j (by omega) p hp
            · have hke : k = l.length := by omega
              subst hke
              have HKP : Hid _ := hkp
              clear hkp
              go_wp2
              go_ret
              obtain ⟨h4, h1, h2, h3⟩ := H4.out
              exact ⟨ret_bool (blocks_yes h1 h2 h3 h4 HB.out).symm, HKP.out⟩
        · have hx : decide (BlocksP a b d l) = false := decide_eq_false fun h => h4 h.2.2.2.1
          rw [hx]
          have d4 : ((l.length : Int) == a * b * d) = false := by simpa using h4
          go_enter Try.func19, Try.ntmps19
          go_wp2_with (go_at_call 46; refine (iedge _ _).mono ?_; rintro e w1 ⟨rfl, rfl⟩; (first | rw [d1] | rw [d2] | rw [d3]))
          go_ret
          exact ⟨rfl, (But.refl _ _ _).alloc _⟩
      · have hx : decide (BlocksP a b d l) = false := decide_eq_false fun h => h3 h.2.2.1
        rw [hx]
        have d3 : decide (1 ≤ d ∧ d ≤ 8) = false := decide_eq_false h3
        go_enter Try.func19, Try.ntmps19
        go_wp2_with (go_at_call 46; refine (iedge _ _).mono ?_; rintro e w1 ⟨rfl, rfl⟩; (first | rw [d1] | rw [d2] | rw [d3]))
        go_ret
        exact ⟨rfl, (But.refl _ _ _).alloc _⟩
    · have hx : decide (BlocksP a b d l) = false := decide_eq_false fun h => h2 h.2.1
      rw [hx]
      have d2 : decide (1 ≤ b ∧ b ≤ 8) = false := decide_eq_false h2
      go_enter Try.func19, Try.ntmps19
      go_wp2_with (go_at_call 46; refine (iedge _ _).mono ?_; rintro e w1 ⟨rfl, rfl⟩; (first | rw [d1] | rw [d2]))
      go_ret
      exact ⟨rfl, (But.refl _ _ _).alloc _⟩
  · have hx : decide (BlocksP a b d l) = false := decide_eq_false fun h => h1 h.1
    rw [hx]
    have d1 : decide (1 ≤ a ∧ a ≤ 8) = false := decide_eq_false h1
    go_enter Try.func19, Try.ntmps19
    go_wp2_with (go_at_call 46; refine (iedge _ _).mono ?_; rintro e w1 ⟨rfl, rfl⟩; (first | rw [d1]))
    go_ret
    exact ⟨rfl, (But.refl _ _ _).alloc _⟩

end Go.Proofs.Ytnfkgnbhdhpnmaa
