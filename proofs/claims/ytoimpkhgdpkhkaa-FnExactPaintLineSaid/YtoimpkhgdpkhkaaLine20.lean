/-
  Lines, step by step: what both sides lean on.
-/
import Derived.Test.YtoimpkhgdpkhkaaPut20
import Derived.Test.YtoimpkhgdpkhkaaSplit20
import Derived.Deep.QuietTactic
namespace Go.Proofs.Ytoimpkhgdpkhkaa
open Go.ChangeShapes Go.WideShapes Go.ChangeAt Go.RowKit

set_option maxRecDepth 100000
set_option linter.unusedVariables false
set_option linter.unusedSimpArgs false
theorem ediv_of (x q d : Int) (hd : 0 < d) (h1 : q * d ≤ x) (h2 : x < (q + 1) * d) : x / d = q := by
  have a1 : q ≤ x / d := (Int.le_ediv_iff_mul_le hd).2 h1
  have a2 : x / d < q + 1 := (Int.ediv_lt_iff_lt_mul hd).2 h2
  omega

def cutM (n : Int) : Int := if n > 1099511627776 then 1099511627776 else if n < -1099511627776 then -1099511627776 else n
def nearM (p b : Int) : Int := cutM ((2 * p + b) / (2 * b))

theorem down_neg (a b : Int) (hb : 0 < b) (h : a.tmod b < 0) : a.tdiv b - 1 = a / b := by
  have h0 : a < 0 := by
    rcases Int.lt_or_le a 0 with h1 | h1
    · exact h1
    · have := Int.tmod_nonneg b h1; omega
  have e := Int.mul_tdiv_add_tmod a b
  have hm : -b < a.tmod b := by have := Int.lt_tmod_of_pos a hb; omega
  refine (ediv_of a (a.tdiv b - 1) b hb ?_ ?_).symm
  · rw [Int.sub_mul, Int.mul_comm (a.tdiv b) b]; omega
  · rw [show a.tdiv b - 1 + 1 = a.tdiv b from by omega, Int.mul_comm]; omega
theorem down_pos (a b : Int) (hb : 0 < b) (h : 0 ≤ a.tmod b) : a.tdiv b = a / b := by
  have e := Int.mul_tdiv_add_tmod a b
  have hm : a.tmod b < b := Int.tmod_lt_of_pos a hb
  refine (ediv_of a (a.tdiv b) b hb ?_ ?_).symm
  · rw [Int.mul_comm]; omega
  · rw [Int.add_mul, Int.mul_comm (a.tdiv b) b]; omega
theorem div_bd (a b m : Int) (hb : 0 < b) (h : -m ≤ a) (h' : a ≤ m) : -m ≤ a / b ∧ a / b ≤ m := by
  have e := Int.mul_ediv_add_emod a b
  have h1 := Int.emod_nonneg a (b := b) (by omega)
  have h2 := Int.emod_lt_of_pos a hb
  rcases Int.lt_or_le (a / b) 0 with h3 | h3
  · have : b * (a / b) ≤ 1 * (a / b) := Int.mul_le_mul_of_nonpos_right (by omega) (by omega)
    refine ⟨?_, by omega⟩
    rcases Int.lt_or_le (a / b) (-m) with h4 | h4
    · exfalso
      have h5 : b * (a / b + 1) ≤ 1 * (a / b + 1) := Int.mul_le_mul_of_nonpos_right (by omega) (by omega)
      rw [Int.mul_add] at h5
      omega
    · exact h4
  · have : 1 * (a / b) ≤ b * (a / b) := Int.mul_le_mul_of_nonneg_right (by omega) h3
    refine ⟨by omega, by omega⟩

theorem dd_any (a b : Int) (w : World) (ha : -4611686018427387904 ≤ a) (ha' : a ≤ 4611686018427387904) (hb : 0 < b) (hb' : b < 4611686018427387904) :
    Calls Try.prog 57 #[.int .i64 a, .int .i64 b] w fun e w' => e = .returned (.int .i64 (a/b)) ∧ w' = w := by
  have hd := div_bd a b 4611686018427387904 hb ha ha'
  go_enter Try.func57, Try.ntmps57
  go_wp2
  · have e := down_neg a b hb ‹_›
    go_returns
    refine ⟨?_, rfl⟩
    rw [e, IntWalk.wrap64_in _ (by omega)]
    rfl
  · have e := down_pos a b hb ‹_›
    go_returns
    refine ⟨?_, rfl⟩
    rw [e]
    rfl


def goodB (x : Int) : Bool := decide (-1099511627776 ≤ x ∧ x ≤ 1099511627776)

/-- Division towards the lesser number. -/
theorem sdown (a b : Int) (w : World) (ha : -4611686018427387904 ≤ a) (ha' : a ≤ 4611686018427387904) (hb : 0 < b) (hb' : b < 4611686018427387904) :
    Calls Try.prog 50 #[.int .i64 a, .int .i64 b] w fun e w' => e = .returned (.int .i64 (a / b)) ∧ w' = w := by
  have hd := div_bd a b 4611686018427387904 hb ha ha'
  have d1 : decide (b < 0) = false := by simp; omega
  by_cases hm : a.tmod b = 0
  · have e := down_pos a b hb (by omega)
    have d2 : (a.tmod b == 0) = true := by simpa using hm
    go_enter Try.func50, Try.ntmps50
    go_wp2
    all_goals
      go_ret
      exact ⟨rfl, rfl⟩
  · have d2 : (a.tmod b == 0) = false := by simpa using hm
    by_cases h0 : a < 0
    · have hneg : a.tmod b < 0 := by
        have := Int.tmod_nonneg b (show 0 ≤ -a by omega)
        rw [Int.neg_tmod] at this
        omega
      have e := down_neg a b hb hneg
      have d3 : decide (a < 0) = true := decide_eq_true h0
      go_enter Try.func50, Try.ntmps50
      go_wp2
      all_goals
        go_ret
        exact ⟨rfl, rfl⟩
    · have e := down_pos a b hb (Int.tmod_nonneg b (by omega))
      have d3 : decide (a < 0) = false := decide_eq_false h0
      go_enter Try.func50, Try.ntmps50
      go_wp2
      all_goals
        go_ret
        exact ⟨rfl, rfl⟩

def absM (x : Int) : Int := if x < 0 then -x else x
theorem absM_in {x m : Int} (h1 : -m ≤ x) (h2 : x ≤ m) : 0 ≤ absM x ∧ absM x ≤ m := by unfold absM; split <;> omega
theorem absM_le (x : Int) : -absM x ≤ x ∧ x ≤ absM x := by unfold absM; split <;> omega
theorem sabs (x : Int) (w : World) (h : -1000000000 ≤ x ∧ x ≤ 1000000000) : Calls Try.prog 49 #[.int .i64 x] w fun e w' => e = .returned (.int .i64 (absM x)) ∧ w' = w := by
  obtain ⟨h1, h2⟩ := h
  by_cases h0 : x < 0
  · go_enter Try.func49, Try.ntmps49
    go_wp2
    go_ret
    exact ⟨ret_intG (by unfold absM; split <;> omega), rfl⟩
  · go_enter Try.func49, Try.ntmps49
    go_wp2
    go_ret
    exact ⟨ret_intG (by unfold absM; split <;> omega), rfl⟩
theorem run_max2 {P : Program} (x y : Int) : ∀ W ts t, (Builtin.max_ ts t #[.int .i64 x, .int .i64 y]).run P W = .ok (.int .i64 (max x y)) W := fun W ts t => by
  simp [Builtin.max_, Builtin.max2]
  (repeat' split) <;> (try congr 2) <;> (try congr 1) <;> omega
theorem iabs (x : Int) (w : World) (h : -1000000000 ≤ x ∧ x ≤ 1000000000) : Calls Try.prog 52 #[.int .i64 x] w fun e w' => e = .returned (.int .i64 (absM x)) ∧ w' = w := by
  obtain ⟨h1, h2⟩ := h
  have hm := run_max2 (P := Try.prog) x (-x)
  go_enter Try.func52, Try.ntmps52
  go_wp2
  go_ret
  exact ⟨ret_intG (by unfold absM; split <;> omega), rfl⟩
def onL (f t k n : Int) : Int := if n = 0 then f else f + (2 * (k * (t - f)) + n) / (2 * n)
theorem prod_bd {k d : Int} (hk : 0 ≤ k ∧ k ≤ 20000) (hd : -20000 ≤ d ∧ d ≤ 20000) : -400000000 ≤ k * d ∧ k * d ≤ 400000000 := by
  have e1 : k * d ≤ k * 20000 := Int.mul_le_mul_of_nonneg_left hd.2 hk.1
  have e2 : k * (-20000) ≤ k * d := Int.mul_le_mul_of_nonneg_left hd.1 hk.1
  omega
set_option maxHeartbeats 4000000 in
theorem inear (a n : Int) (w : World) (ha : -400000000 ≤ a ∧ a ≤ 400000000) (hn : 0 < n ∧ n ≤ 20000) : Calls Try.prog 56 #[.int .i64 a, .int .i64 n] w fun e w' => e = .returned (.int .i64 ((2 * a + n) / (2 * n))) ∧ w' = w := by
  have DD : Hid (∀ W, Calls Try.prog 57 #[.int .i64 (2 * a + n), .int .i64 (2 * n)] W fun e w' => e = .returned (.int .i64 ((2 * a + n) / (2 * n))) ∧ w' = W) := fun W => dd_any _ _ W (by omega) (by omega) (by omega) (by omega)
  go_enter Try.func56, Try.ntmps56
  repeat (first | (go_at_call 57; refine (DD.out _).mono ?_; rintro e w3 ⟨rfl, hw3⟩; rw [hw3]; clear hw3 w3; dsimp only) | go_values | go_skip | go_guarded | go_step | go_upon)
  go_ret
  exact ⟨rfl, rfl⟩
set_option maxHeartbeats 4000000 in
theorem ionL (f t k n : Int) (w : World) (hf : -10000 ≤ f ∧ f ≤ 10000) (ht : -10000 ≤ t ∧ t ≤ 10000) (hk : 0 ≤ k ∧ k ≤ n) (hn : n ≤ 20000) : Calls Try.prog 53 #[.int .i64 f, .int .i64 t, .int .i64 k, .int .i64 n] w fun e w' => e = .returned (.int .i64 (onL f t k n)) ∧ w' = w := by
  by_cases h0 : n = 0
  · rw [show onL f t k n = f from if_pos h0]
    have d0 : (n == 0) = true := by simpa using h0
    clear h0
    go_enter Try.func53, Try.ntmps53
    repeat (first | go_values | go_skip | go_guarded | go_step | go_upon)
    go_ret
    exact ⟨rfl, rfl⟩
  · have hp := prod_bd (k := k) (d := t - f) (by omega) (by omega)
    have hq := div_bd (2 * (k * (t - f)) + n) (2 * n) 1000000000 (by omega) (by omega) (by omega)
    have HQ : Hid (onL f t k n = f + (2 * (k * (t - f)) + n) / (2 * n)) := if_neg h0
    rw [HQ.out]
    have d0 : (n == 0) = false := by simpa using h0
    have NR : Hid (∀ W, Calls Try.prog 56 #[.int .i64 (k * (t - f)), .int .i64 n] W fun e w' => e = .returned (.int .i64 ((2 * (k * (t - f)) + n) / (2 * n))) ∧ w' = W) := fun W => inear _ _ W hp (by omega)
    generalize (2 * (k * (t - f)) + n) / (2 * n) = Q at *
    clear h0 HQ
    go_enter Try.func53, Try.ntmps53
    repeat (first | (go_at_call 56; refine (NR.out _).mono ?_; rintro e w3 ⟨rfl, hw3⟩; rw [hw3]; clear hw3 w3; dsimp only) | go_values | go_skip | go_guarded | go_step | go_upon)
    go_ret
    exact ⟨rfl, rfl⟩
theorem wp_region_ksp {P : Program} {id : Nat} {Q : Exit → Act → World → Prop} {a : Act} {w : World} {l : List Oper} (m d : Nat) (hm : P.follows .mixedOrders = true) (hB : Region.lexB .any l.toArray = true) (hR : splitB l.toArray m d = true) (hml : m ≤ l.length)
    (h : wpQuiet P l.toArray (fun w' => ∃ x : KW w, w' = x.w) (fun a' => ∀ w', (∃ x : KW w, w' = x.w) → wpList P l.toArray Q (l.drop m) a' w') (l.take m) a) : (Code.region id l.toArray true).wp P Q a w :=
  wp_region_split m d hm hB hR hml ⟨⟨w.drew, (But.refl _ _ w).drew⟩, rfl⟩ h
/-- A line painted, step by step. -/
def lineN (c : SheetD) (x0 y0 x1 y1 col n : Int) : Nat → List Int
  | 0 => c.2.2
  | k + 1 => putL c.1 c.2.1 (lineN c x0 y0 x1 y1 col n k) (onL x0 x1 k n) (onL y0 y1 k n) col
theorem lineN_len (c : SheetD) (x0 y0 x1 y1 col n : Int) (k : Nat) : (lineN c x0 y0 x1 y1 col n k).length = c.2.2.length := by
  induction k with
  | zero => rfl
  | succ k ih => rw [lineN, putL_len, ih]
def stepsM (x0 y0 x1 y1 : Int) : Int := max (absM (x1 - x0)) (absM (y1 - y0))
abbrev PlP (x : Int) : Prop := -10000 ≤ x ∧ x ≤ 10000
abbrev EndsP (x0 y0 x1 y1 : Int) : Prop := PlP x0 ∧ PlP y0 ∧ PlP x1 ∧ PlP y1
theorem steps_in {x0 y0 x1 y1 : Int} (h : EndsP x0 y0 x1 y1) : 0 ≤ stepsM x0 y0 x1 y1 ∧ stepsM x0 y0 x1 y1 ≤ 20000 := by
  obtain ⟨⟨a1, a2⟩, ⟨b1, b2⟩, ⟨c1, c2⟩, d1, d2⟩ := h
  have h1 := absM_in (x := x1 - x0) (m := 20000) (by omega) (by omega)
  have h2 := absM_in (x := y1 - y0) (m := 20000) (by omega) (by omega)
  unfold stepsM
  omega
def lineA (c : SheetD) (x0 y0 x1 y1 col : Int) : SheetD × Bool := if SheetP c ∧ EndsP x0 y0 x1 y1 ∧ (0 ≤ col ∧ col ≤ 16777215) then ((c.1, c.2.1, lineN c x0 y0 x1 y1 col (stepsM x0 y0 x1 y1) ((stepsM x0 y0 x1 y1).toNat + 1)), true) else ((0, 0, []), false)

end Go.Proofs.Ytoimpkhgdpkhkaa
