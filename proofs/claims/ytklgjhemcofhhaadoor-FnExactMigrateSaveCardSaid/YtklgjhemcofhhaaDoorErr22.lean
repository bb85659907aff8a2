/-
  Errors in variables, and numbers by changes.
-/
import Derived.Test.YtklgjhemcofhhaaDoorInv22
import Derived.Test.YtklgjhemcofhhaaDoorLeaf22
import Derived.Test.YtklgjhemcofhhaaDoorQuiet
import Derived.BigQuiet
import Derived.WalkLawsBesides
import Derived.Stop.IfaceNil
namespace Go.Proofs.YtklgjhemcofhhaaDoor
open Go.ChangeShapes Go.WideShapes Go.ChangeAt Go.RowKit

set_option maxRecDepth 100000
set_option linter.unusedVariables false
set_option linter.unusedSimpArgs false

/-- An error that is there. -/
def EIs (v : Value) : Prop := ∃ u a, v = .iface u (.pointer (some a))
/-- A variable that holds an error. -/
def GE (w : World) (g : Nat) : Prop := ∃ u a, w.cell? ⟨g, 0, none⟩ = some (.iface u (.pointer (some a)))
def ErrG (w : World) : Prop := GE w 1 ∧ GE w 7 ∧ GE w 9 ∧ GE w 10
theorem GE.lt {w : World} {g : Nat} (h : GE w g) : g < w.heap.size := by
  obtain ⟨u, a, h⟩ := h
  exact World.block_lt_of_cell? _ _ h
theorem GE.but {w w' : World} {lo hi g : Nat} (h : GE w g) (k : But lo hi w w') (hl : g < lo) : GE w' g := by
  obtain ⟨u, a, h⟩ := h
  exact ⟨u, a, But.cell k h (.inl hl)⟩
theorem GE.kept {w w' : World} {g : Nat} (h : GE w g) (k : Kept w w') : GE w' g := by
  obtain ⟨u, a, h⟩ := h
  exact ⟨u, a, Kept.cell k h⟩
theorem ErrG.but {w w' : World} {lo hi : Nat} (h : ErrG w) (k : But lo hi w w') (hl : 10 < lo) : ErrG w' :=
  ⟨h.1.but k (by omega), h.2.1.but k (by omega), h.2.2.1.but k (by omega), h.2.2.2.but k (by omega)⟩
theorem ErrG.kept {w w' : World} (h : ErrG w) (k : Kept w w') : ErrG w' := ⟨h.1.kept k, h.2.1.kept k, h.2.2.1.kept k, h.2.2.2.kept k⟩

set_option maxHeartbeats 1000000 in
theorem iadd_some (kd n b m : Int) (w : World) (hk : kd ≠ 3) (hb : -1000000 ≤ b ∧ b ≤ 1000000) (hn : InR n) (ht : turnL kd b n = some m) :
    Calls Tryd.prog 69 #[.int .i64 n, .int .i64 b] w fun e w' => e = .returned (.tuple #[.int .i64 m, .nilIface]) ∧ Kept w w' := by
  unfold InR at hn
  unfold turnL at ht
  rw [if_neg hk] at ht
  split at ht
  · rename_i h
    cases ht
    have d1 : decide (n < -1000000000000000 - b) = false := decide_eq_false (by omega)
    have d2 : decide (1000000000000000 - b < n) = false := decide_eq_false (by omega)
    go_enter Tryd.func69, Tryd.ntmps69
    go_wp2
    go_ret2
    exact ⟨by simp, But.refl _ _ _⟩
  · cases ht
set_option maxHeartbeats 1000000 in
theorem iadd_none (kd n b : Int) (w : World) (hk : kd ≠ 3) (hb : -1000000 ≤ b ∧ b ≤ 1000000) (hn : InR n) (ht : turnL kd b n = none) (hE : GE w 10) :
    Calls Tryd.prog 69 #[.int .i64 n, .int .i64 b] w fun e w' => (∃ er, EIs er ∧ e = .returned (.tuple #[.int .i64 0, er])) ∧ Kept w w' := by
  unfold InR at hn
  obtain ⟨u, a, hc⟩ := hE
  unfold turnL at ht
  rw [if_neg hk] at ht
  split at ht
  · cases ht
  · rename_i h
    by_cases h1 : n < -1000000000000000 - b
    · have d1 : decide (n < -1000000000000000 - b) = true := decide_eq_true h1
      go_enter Tryd.func69, Tryd.ntmps69
      go_wp2_with (go_region)
      go_ret2
      exact ⟨⟨_, ⟨u, a, rfl⟩, rfl⟩, (But.refl _ _ _).drew⟩
    · have d1 : decide (n < -1000000000000000 - b) = false := decide_eq_false h1
      have d2 : decide (1000000000000000 - b < n) = true := decide_eq_true (by omega)
      go_enter Tryd.func69, Tryd.ntmps69
      go_wp2_with (go_region)
      go_ret2
      exact ⟨⟨_, ⟨u, a, rfl⟩, rfl⟩, (But.refl _ _ _).drew⟩
theorem times_bound (b n : Int) (hb : b ≠ 0) : (-(1000000000000000 / (if b < 0 then -b else b)) ≤ n ∧ n ≤ 1000000000000000 / (if b < 0 then -b else b)) ↔ (-1000000000000000 ≤ b * n ∧ b * n ≤ 1000000000000000) := by
  have hs : 0 < (if b < 0 then -b else b) := by split <;> omega
  have e1 := Int.le_ediv_iff_mul_le (a := n) (b := 1000000000000000) hs
  have e2 := Int.le_ediv_iff_mul_le (a := -n) (b := 1000000000000000) hs
  have e3 : (-(1000000000000000 / (if b < 0 then -b else b)) ≤ n) ↔ -n ≤ 1000000000000000 / (if b < 0 then -b else b) := by omega
  rw [e3, e1, e2]
  split
  · rw [Int.neg_mul_neg, Int.mul_neg, Int.mul_comm n b]
    omega
  · rw [Int.neg_mul, Int.mul_comm n b]
    omega
theorem isize (b : Int) (w : World) (hb : -1000000 ≤ b ∧ b ≤ 1000000) :
    Calls Tryd.prog 87 #[.int .i64 b] w fun e w' => e = .returned (.int .i64 (if b < 0 then -b else b)) ∧ Kept w w' := by
  by_cases h : b < 0
  · rw [if_pos h]
    have d1 : decide (b < 0) = true := decide_eq_true h
    go_enter Tryd.func87, Tryd.ntmps87
    go_wp2
    go_ret
    exact ⟨by simp; omega, But.refl _ _ _⟩
  · rw [if_neg h]
    have d1 : decide (b < 0) = false := decide_eq_false h
    go_enter Tryd.func87, Tryd.ntmps87
    go_wp2
    go_ret
    exact ⟨by simp; omega, But.refl _ _ _⟩
theorem quo_some {n b q : Int} (hq : 1000000000000000 / (if b < 0 then -b else b) = q) (hb0 : b ≠ 0) (hb : -1000000 ≤ b ∧ b ≤ 1000000) : (1000000000000000 : Int).tdiv (if b < 0 then -b else b) = q ∧ 0 ≤ q ∧ q ≤ 1000000000000000 ∧ ((-q ≤ n ∧ n ≤ q) ↔ (-1000000000000000 ≤ b * n ∧ b * n ≤ 1000000000000000)) := by
  have h := times_bound b n hb0
  rw [hq] at h
  have hs : 0 < (if b < 0 then -b else b) := by split <;> omega
  refine ⟨by rw [Int.tdiv_eq_ediv_of_nonneg (by omega)]; exact hq, ?_, ?_, h⟩
  · rw [← hq]
    exact Int.ediv_nonneg (by omega) (by omega)
  · rw [← hq]
    exact Int.ediv_le_self _ (by omega)
set_option maxHeartbeats 1000000 in
theorem itimes_some (n b m : Int) (w : World) (hb : -1000000 ≤ b ∧ b ≤ 1000000) (hn : InR n) (ht : turnL 3 b n = some m) :
    Calls Tryd.prog 70 #[.int .i64 n, .int .i64 b] w fun e w' => e = .returned (.tuple #[.int .i64 m, .nilIface]) ∧ Kept w w' := by
  unfold InR at hn
  unfold turnL at ht
  rw [if_pos rfl] at ht
  split at ht
  · rename_i h
    cases ht
    by_cases hb0 : b = 0
    · subst hb0
      go_enter Tryd.func70, Tryd.ntmps70
      go_wp2
      go_ret2
      exact ⟨by simp, But.refl _ _ _⟩
    · have db : (b == 0) = false := by simpa using hb0
      obtain ⟨q, hq⟩ : ∃ q, 1000000000000000 / (if b < 0 then -b else b) = q := ⟨_, rfl⟩
      obtain ⟨h1, h2, h3, h4⟩ := quo_some (n := n) hq hb0 hb
      have h5 := h4.2 h
      have IS := isize b w hb
      have hs : 0 < (if b < 0 then -b else b) ∧ (if b < 0 then -b else b) ≤ 1000000 := by split <;> omega
      generalize (if b < 0 then -b else b) = s at *
      have HI : Hid (Calls Tryd.prog 87 #[.int .i64 b] w fun e w' => e = .returned (.int .i64 s) ∧ Kept w w') := IS
      have hs0 : (s == 0) = false := by simp; omega
      obtain ⟨M, hM⟩ : ∃ M, b * n = M := ⟨_, rfl⟩
      have hM2 : n * b = M := by rw [Int.mul_comm]; exact hM
      rw [hM] at h
      rw [hM]
      have d1 : decide (n < -q) = false := decide_eq_false (by omega)
      have d2 : decide (q < n) = false := decide_eq_false (by omega)
      clear hq h4 IS hM
      go_enter Tryd.func70, Tryd.ntmps70
      go_wp2_with (go_at_call 87; refine HI.out.mono ?_; rintro e w1 ⟨rfl, k1⟩)
      go_ret2
      exact ⟨by simp, k1⟩
  · cases ht
set_option maxHeartbeats 1000000 in
theorem itimes_none (n b : Int) (w : World) (hb : -1000000 ≤ b ∧ b ≤ 1000000) (hn : InR n) (ht : turnL 3 b n = none) (hE : GE w 10) :
    Calls Tryd.prog 70 #[.int .i64 n, .int .i64 b] w fun e w' => (∃ er, EIs er ∧ e = .returned (.tuple #[.int .i64 0, er])) ∧ Kept w w' := by
  unfold InR at hn
  unfold turnL at ht
  rw [if_pos rfl] at ht
  split at ht
  · cases ht
  · rename_i h
    have hb0 : b ≠ 0 := by
      intro e
      subst e
      simp at h
    have db : (b == 0) = false := by simpa using hb0
    obtain ⟨q, hq⟩ : ∃ q, 1000000000000000 / (if b < 0 then -b else b) = q := ⟨_, rfl⟩
    obtain ⟨h1, h2, h3, h4⟩ := quo_some (n := n) hq hb0 hb
    have h5 : ¬ (-q ≤ n ∧ n ≤ q) := fun e => h (h4.1 e)
    have IS := isize b w hb
    have hs : 0 < (if b < 0 then -b else b) ∧ (if b < 0 then -b else b) ≤ 1000000 := by split <;> omega
    generalize (if b < 0 then -b else b) = s at *
    have HI : Hid (Calls Tryd.prog 87 #[.int .i64 b] w fun e w' => e = .returned (.int .i64 s) ∧ Kept w w') := IS
    have HG : Hid (∀ W, Kept w W → GE W 10) := fun W k => hE.kept k
    have hs0 : (s == 0) = false := by simp; omega
    clear hq h4 IS h hE
    by_cases hl : n < -q
    · have d1 : decide (n < -q) = true := decide_eq_true hl
      go_enter Tryd.func70, Tryd.ntmps70
      go_wp2_with (first | (go_at_call 87; refine HI.out.mono ?_; rintro e w1 ⟨rfl, k1⟩; obtain ⟨u, a, hc⟩ := HG.out _ k1) | go_region)
      go_ret2
      exact ⟨⟨_, ⟨u, a, rfl⟩, rfl⟩, k1.drew⟩
    · have d1 : decide (n < -q) = false := decide_eq_false hl
      have d2 : decide (q < n) = true := decide_eq_true (by omega)
      go_enter Tryd.func70, Tryd.ntmps70
      go_wp2_with (first | (go_at_call 87; refine HI.out.mono ?_; rintro e w1 ⟨rfl, k1⟩; obtain ⟨u, a, hc⟩ := HG.out _ k1) | go_region)
      go_ret2
      exact ⟨⟨_, ⟨u, a, rfl⟩, rfl⟩, k1.drew⟩

end Go.Proofs.YtklgjhemcofhhaaDoor
