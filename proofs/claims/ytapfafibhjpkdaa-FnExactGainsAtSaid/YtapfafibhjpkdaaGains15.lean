/-
  What GainsAt answers at what it refuses, in the specification and in the program.
-/
import Derived.Test.YtapfafibhjpkdaaMulAll
import Derived.Test.YtapfafibhjpkdaaRootAll
namespace Go.Proofs.Ytapfafibhjpkdaa
open Go.ChangeShapes Go.WideShapes Go.ChangeAt Go.RowKit

set_option maxRecDepth 100000
set_option linter.unusedVariables false
open Plain
theorem ret_boolG {a b : Bool} (h : a = b) : Ending.returned (.bool a) = .returned (.bool b) := by rw [h]
theorem sIn (n lo hi : Int) (w : World) : Calls Try.prog 40 #[.int .i64 n, .int .i64 lo, .int .i64 hi] w fun e w' => e = .returned (.bool (decide (lo ≤ n ∧ n ≤ hi))) ∧ w' = w := by
  go_enter Try.func40, Try.ntmps40
  go_wp2
  all_goals
    go_ret
    exact ⟨ret_boolG (by rw [Bool.eq_iff_iff]; simp <;> omega), rfl⟩
theorem sdown (a b : Int) (w : World) (ha : -4611686018427387904 ≤ a) (ha' : a ≤ 4611686018427387904) (hb : 0 < b) (hb' : b < 4611686018427387904) :
    Calls Try.prog 64 #[.int .i64 a, .int .i64 b] w fun e w' => e = .returned (.int .i64 (a / b)) ∧ w' = w := by
  have hd := div_bd a b 4611686018427387904 hb ha ha'
  have d1 : decide (b < 0) = false := by simp; omega
  by_cases hm : a.tmod b = 0
  · have e := down_pos a b hb (by omega)
    have d2 : (a.tmod b == 0) = true := by simpa using hm
    go_enter Try.func64, Try.ntmps64
    go_wp2
    all_goals
      go_ret
      exact ⟨rfl, rfl⟩
  · have d2 : (a.tmod b == 0) = false := by simpa using hm
    by_cases h0 : a < 0
    · have hneg : a.tmod b < 0 := by
        have := Int.tmod_nonneg b (show 0 ≤ -a by omega)
        rw [Int.neg_tmod] at this
        omega
      have e := down_neg a b hb hneg
      have d3 : decide (a < 0) = true := decide_eq_true h0
      go_enter Try.func64, Try.ntmps64
      go_wp2
      all_goals
        go_ret
        exact ⟨rfl, rfl⟩
    · have e := down_pos a b hb (Int.tmod_nonneg b (by omega))
      have d3 : decide (a < 0) = false := decide_eq_false h0
      go_enter Try.func64, Try.ntmps64
      go_wp2
      all_goals
        go_ret
        exact ⟨rfl, rfl⟩

def rawM (d x : Int) : Int := if 0 < d then divM x d else 0
def sideM (d x : Int) : Int := if 65536 < rawM d x then 65536 else if rawM d x < -65536 then -65536 else rawM d x
def gainM (d far : Int) : Int := if d < far then 65536 - divM d far else 0
theorem mulM_zero (b : Int) : mulM 0 b = 0 := by
  unfold mulM
  split
  · rw [Int.zero_mul]; exact near_zero
  · rfl
theorem near_bd (p b : Int) : -1099511627776 ≤ nearM p b ∧ nearM p b ≤ 1099511627776 := by
  unfold nearM cutM
  split
  · omega
  · split <;> omega
theorem div_bds (a b : Int) : -1099511627776 ≤ divM a b ∧ divM a b ≤ 1099511627776 := by
  unfold divM
  split
  · split <;> exact near_bd _ _
  · omega
theorem raw_bd (d x : Int) : -1099511627776 ≤ rawM d x ∧ rawM d x ≤ 1099511627776 := by
  unfold rawM
  split
  · exact div_bds _ _
  · omega
theorem side_bd (d x : Int) : -65536 ≤ sideM d x ∧ sideM d x ≤ 65536 := by
  unfold sideM
  split
  · omega
  · split <;> omega
def GainE (x y far : Int) (e : Ending) : Prop := ∃ d, IsRoot (aabs x * aabs x + aabs y * aabs y) d ∧ e = .returned (.tuple #[.int .i64 (mulM (gainM d far) ((65536 - sideM d x) / 2)), .int .i64 (mulM (gainM d far) ((65536 + sideM d x) / 2)), .bool true])
def GainBad (x y far : Int) : Prop := (x < -1099511627776 ∨ 1099511627776 < x) ∨ (y < -1099511627776 ∨ 1099511627776 < y) ∨ (far < 65536 ∨ 1099511627776 < far)
theorem ret_three {a b c d : Int} (h : a = c) (h' : b = d) : Ending.returned (.tuple #[.int .i64 a, .int .i64 b, .bool true]) = .returned (.tuple #[.int .i64 c, .int .i64 d, .bool true]) := by rw [h, h']
theorem hgt {a b c : World} (h : Hid (Grown a b)) (k : Grown b c) : Hid (Grown a c) := gtrans h.out k
theorem isRoot_bd {n r : Int} (h : IsRoot n r) : 0 ≤ r ∧ r ≤ 1099511627776 := ⟨h.1, h.2.1⟩
set_option maxHeartbeats 2000000 in
theorem sgains_bad (x y far : Int) (w : World) (h : GainBad x y far) :
    Calls Try.prog 27 #[.int .i64 x, .int .i64 y, .int .i64 far] w fun e w' => e = .returned (.tuple #[.int .i64 0, .int .i64 0, .bool false]) ∧ Grown w w' := by
  by_cases h1 : x < -1099511627776 ∨ 1099511627776 < x
  · have H1 : Hid _ := h1
    clear h h1
    go_enter Try.func27, Try.ntmps27
    go_wp2_with (go_at_call 61; refine (gs_no _ _ H1.out).mono ?_; rintro e w' ⟨rfl, rfl⟩)
    go_returns
    exact ⟨rfl, Grown.refl _⟩
  · by_cases h2 : y < -1099511627776 ∨ 1099511627776 < y
    · have H2 : Hid _ := h2
      have H1 : Hid (-1099511627776 ≤ x ∧ x ≤ 1099511627776) := by show _ ∧ _; omega
      clear h h1 h2
      go_enter Try.func27, Try.ntmps27
      go_wp2_with (first
        | (go_at_call 61; refine (gs_yes x _ H1.out.1 H1.out.2).mono ?_; rintro e w' ⟨rfl, rfl⟩)
        | (go_at_call 61; refine (gs_no y _ H2.out).mono ?_; rintro e w' ⟨rfl, rfl⟩))
      go_returns
      exact ⟨rfl, Grown.refl _⟩
    · have H1 : Hid (-1099511627776 ≤ x ∧ x ≤ 1099511627776) := by show _ ∧ _; omega
      have H2 : Hid (-1099511627776 ≤ y ∧ y ≤ 1099511627776) := by show _ ∧ _; omega
      have d3 : decide (65536 ≤ far ∧ far ≤ 1099511627776) = false := by unfold GainBad at h; simp; omega
      clear h h1 h2
      go_enter Try.func27, Try.ntmps27
      go_wp2_with (first
        | (go_at_call 61; refine (gs_yes x _ H1.out.1 H1.out.2).mono ?_; rintro e w' ⟨rfl, rfl⟩)
        | (go_at_call 61; refine (gs_yes y _ H2.out.1 H2.out.2).mono ?_; rintro e w' ⟨rfl, rfl⟩)
        | (go_at_call 40; refine (sIn _ _ _ _).mono ?_; rintro e w' ⟨rfl, rfl⟩; rw [d3]))
      go_returns
      exact ⟨rfl, Grown.refl _⟩
set_option maxHeartbeats 2000000 in
theorem igains_bad (x y far : Int) (w : World) (h : GainBad x y far) :
    Calls Try.prog 28 #[.int .i64 x, .int .i64 y, .int .i64 far] w fun e w' => e = .returned (.tuple #[.int .i64 0, .int .i64 0, .bool false]) ∧ Grown w w' := by
  by_cases h1 : x < -1099511627776 ∨ 1099511627776 < x
  · have H1 : Hid _ := h1
    clear h h1
    go_enter Try.func28, Try.ntmps28
    go_wp2_with (go_at_call 65; refine (gi_no _ _ H1.out).mono ?_; rintro e w' ⟨rfl, rfl⟩)
    go_returns
    exact ⟨rfl, Grown.refl _⟩
  · by_cases h2 : y < -1099511627776 ∨ 1099511627776 < y
    · have H2 : Hid _ := h2
      have H1 : Hid (-1099511627776 ≤ x ∧ x ≤ 1099511627776) := by show _ ∧ _; omega
      clear h h1 h2
      go_enter Try.func28, Try.ntmps28
      go_wp2_with (first
        | (go_at_call 65; refine (gi_yes x _ H1.out.1 H1.out.2).mono ?_; rintro e w' ⟨rfl, rfl⟩)
        | (go_at_call 65; refine (gi_no y _ H2.out).mono ?_; rintro e w' ⟨rfl, rfl⟩))
      go_returns
      exact ⟨rfl, Grown.refl _⟩
    · have H1 : Hid (-1099511627776 ≤ x ∧ x ≤ 1099511627776) := by show _ ∧ _; omega
      have H2 : Hid (-1099511627776 ≤ y ∧ y ≤ 1099511627776) := by show _ ∧ _; omega
      have d3 : far < 65536 ∨ 1099511627776 < far := by unfold GainBad at h; omega
      clear h h1 h2
      rcases d3 with d3 | d3
      all_goals
        go_enter Try.func28, Try.ntmps28
        go_wp2_with (first
          | (go_at_call 65; refine (gi_yes x _ H1.out.1 H1.out.2).mono ?_; rintro e w' ⟨rfl, rfl⟩)
          | (go_at_call 65; refine (gi_yes y _ H2.out.1 H2.out.2).mono ?_; rintro e w' ⟨rfl, rfl⟩))
        all_goals
          go_returns
          exact ⟨rfl, Grown.refl _⟩

end Go.Proofs.Ytapfafibhjpkdaa
