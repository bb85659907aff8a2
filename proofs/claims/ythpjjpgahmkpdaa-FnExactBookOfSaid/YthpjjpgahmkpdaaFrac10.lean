/-
  Fractions in least terms, on both sides.
-/
import Derived.Test.YthpjjpgahmkpdaaGr10
import Derived.Test.YthpjjpgahmkpdaaRows10
namespace Go.Proofs.Ythpjjpgahmkpdaa
open Go.ChangeShapes Go.WideShapes Go.ChangeAt Go.RowKit

set_option maxRecDepth 100000
set_option linter.unusedVariables false
set_option linter.unusedSimpArgs false
/-- A fraction: above, below. -/
abbrev Fr := Int × Int
def fl (a b : Fr) : Prop := a.1 * b.2 < b.1 * a.2
instance (a b : Fr) : Decidable (fl a b) := inferInstanceAs (Decidable (_ < _))
def red (a : Fr) : Fr := (a.1 / (Int.gcd a.1 a.2 : Int), a.2 / (Int.gcd a.1 a.2 : Int))

theorem red_mul {a : Fr} (h : 0 < a.2) : ∃ g : Int, 0 < g ∧ g = (Int.gcd a.1 a.2 : Int) ∧ a.1 = g * (red a).1 ∧ a.2 = g * (red a).2 ∧ 0 < (red a).2 := by
  have hg : 0 < (Int.gcd a.1 a.2 : Int) := by
    have : Int.gcd a.1 a.2 ≠ 0 := fun e => by
      have := (Int.gcd_eq_zero_iff.1 e).2
      omega
    omega
  have h1 : a.1 = (Int.gcd a.1 a.2 : Int) * (red a).1 := (Int.mul_ediv_cancel' (Int.gcd_dvd_left _ _)).symm
  have h2 : a.2 = (Int.gcd a.1 a.2 : Int) * (red a).2 := (Int.mul_ediv_cancel' (Int.gcd_dvd_right _ _)).symm
  refine ⟨_, hg, rfl, h1, h2, ?_⟩
  rcases Int.lt_or_le 0 (red a).2 with k | k
  · exact k
  · have : (Int.gcd a.1 a.2 : Int) * (red a).2 ≤ 0 := Int.mul_nonpos_of_nonneg_of_nonpos (by omega) k
    omega

theorem red_one : red (0, 1) = (0, 1) := by decide

theorem red_bd {a : Fr} {m k : Int} (h : 0 < a.2) (h1 : -m ≤ a.1) (h2 : a.1 ≤ m) (h3 : a.2 ≤ k) : (-m ≤ (red a).1 ∧ (red a).1 ≤ m) ∧ 0 < (red a).2 ∧ (red a).2 ≤ k := by
  obtain ⟨g, hg, _, e1, e2, e3⟩ := red_mul h
  generalize (red a).1 = p at *
  generalize (red a).2 = q at *
  have hq : q ≤ g * q := by
    have := Int.mul_le_mul_of_nonneg_right (show (1 : Int) ≤ g by omega) (show 0 ≤ q by omega)
    omega
  refine ⟨?_, e3, by omega⟩
  rcases Int.le_total 0 p with hp | hp
  · have := Int.mul_le_mul_of_nonneg_right (show (1 : Int) ≤ g by omega) hp
    omega
  · have := Int.mul_le_mul_of_nonneg_right (show (1 : Int) ≤ g by omega) (show 0 ≤ -p by omega)
    simp only [Int.mul_neg, Int.one_mul] at this
    omega
theorem sabs (a : Int) (w : World) (h1 : -1000000000000000000 ≤ a ∧ a ≤ 1000000000000000000) : Calls Try.prog 108 #[.int .i64 a] w fun e w' => e = .returned (.int .i64 (a.natAbs : Int)) ∧ w' = w := by
  go_enter Try.func108, Try.ntmps108
  go_wp2
  all_goals
    go_ret
    exact ⟨ret_int (by omega), rfl⟩
set_option maxHeartbeats 2000000 in
theorem sgcd (a : Int) (b : Nat) (w : World) (h1 : -1000000000000000000 ≤ a ∧ a ≤ 1000000000000000000) (h2 : b ≤ 1000000000000000000) : Calls Try.prog 72 #[.int .i64 a, .int .i64 (b : Int)] w fun e w' => e = .returned (.int .i64 (Int.gcd a b : Int)) ∧ Kept w w' := by
  go_enter Try.func72, Try.ntmps72
  repeat (first | (go_at_call 108; refine (sabs _ _ h1).mono ?_; rintro e w' ⟨rfl, rfl⟩; dsimp only) | go_values | go_skip | go_guarded | go_step | go_upon)
  go_loop [0, 1] (fun va vb => ∃ x y : Nat, va = .int .i64 (x : Int) ∧ vb = .int .i64 (y : Int) ∧ x ≤ 1000000000000000000 ∧ y ≤ 1000000000000000000 ∧ Nat.gcd x y = Int.gcd a b) (fun _ vb => (intOf vb).toNat)
  case atStart => exact ⟨a.natAbs, b, rfl, rfl, by omega, h2, by simp [Int.gcd]⟩
  case round =>
    obtain ⟨x, y, rfl, rfl, hx, hy, hg⟩ := hrel
    have HG : Hid (Nat.gcd x y = Int.gcd a b) := hg
    clear hg
    by_cases hy0 : y = 0
    · subst hy0
      repeat (first | go_values | go_skip | go_guarded | go_step | go_upon)
      go_ret
      refine ⟨ret_int ?_, by (repeat (first | with_reducible exact But.refl _ _ _ | with_reducible apply But.drewN | with_reducible apply But.drew | with_reducible apply But.alloc))⟩
      have := HG.out
      rw [Nat.gcd_zero_right] at this
      rw [this]
    · have e1 : ((y : Int) == 0) = false := by simp; omega
      have e2 : (x : Int).tmod (y : Int) = ((x % y : Nat) : Int) := by rw [Int.tmod_eq_emod_of_nonneg (by omega)]; rfl
      have e3 : x % y < y := Nat.mod_lt _ (by omega)
      repeat (first | go_values | go_skip | go_guarded | go_step | go_upon)
      refine ⟨⟨y, x % y, rfl, ?_, hy, by omega, ?_⟩, ?_⟩
      · simp
      · rw [← HG.out, Nat.gcd_comm y, ← Nat.gcd_rec, Nat.gcd_comm]
      · have : ((x : Int) % (y : Int)).toNat = x % y := by omega
        simp [intOf, this]
        omega

theorem div_red {a : Int} {b : Nat} (hb : 0 < b) : a.tdiv (Int.gcd a b : Int) = (red (a, (b : Int))).1 ∧ (b : Int).tdiv (Int.gcd a b : Int) = (red (a, (b : Int))).2 := by
  refine ⟨?_, ?_⟩
  · rw [Int.tdiv_eq_ediv_of_dvd (Int.gcd_dvd_left a b)]; rfl
  · rw [Int.tdiv_eq_ediv_of_dvd (Int.gcd_dvd_right a b)]; rfl
set_option maxHeartbeats 10000000000000000000 in
theorem leastT (a b : Nat) (w : World) (h1 : a ≤ 1000000000000000000) (h2 : b ≤ 1000000000000000000) (h3 : 0 < b) : Calls Try.prog 61 #[.agg #[.int .i64 (a : Int), .int .i64 (b : Int)]] w fun e w' => e = .returned (.agg #[.int .i64 (red ((a : Int), (b : Int))).1, .int .i64 (red ((a : Int), (b : Int))).2]) ∧ Kept w w' := by
  go_enter Try.func61, Try.ntmps61
  repeat (first | go_values | go_skip | go_guarded | go_step | go_upon)
  go_quiet (fail)
  repeat (first | go_values | go_skip | go_guarded | go_step | go_upon)
  go_loopw [3, 4] (fun vc vr wr => ∃ x y : Nat, vc = .int .i64 (x : Int) ∧ vr = .int .i64 (y : Int) ∧ x ≤ 1000000000000000000 ∧ y ≤ 1000000000000000000 ∧ Nat.gcd x y = Int.gcd (a : Int) (b : Int) ∧ wr.cell? ⟨w.heap.size, 0, none⟩ = some (.int .i64 (a : Int)) ∧ wr.cell? ⟨w.heap.size, 1, none⟩ = some (.int .i64 (b : Int)) ∧ wr.cell? ⟨w.heap.size + 1, 0, none⟩ = some (.int .i64 0) ∧ wr.cell? ⟨w.heap.size + 1, 1, none⟩ = some (.int .i64 0) ∧ wr.frozen? ⟨w.heap.size + 1, 0, none⟩ = false ∧ wr.frozen? ⟨w.heap.size + 1, 1, none⟩ = false ∧ Kept w wr) (fun _ vr _ => (intOf vr).toNat)
  case atStart => exact ⟨b, a, rfl, rfl, h2, h1, by simp [Int.gcd, Nat.gcd_comm], by simp [go_sem], by simp [go_sem], by simp [go_sem], by simp [go_sem], by simp [go_sem], by simp [go_sem], by (repeat (first | with_reducible exact But.refl _ _ _ | with_reducible apply But.drewN | with_reducible apply But.drew | with_reducible apply But.alloc))⟩
  case round =>
    obtain ⟨x, y, rfl, rfl, hx, hy, hg, c0, c1, c2, c3, z0, z1, hk⟩ := hrel
    have HG : Hid (Nat.gcd x y = Int.gcd (a : Int) (b : Int)) := hg
    have HK : Hid (Kept w wr) := hk
    clear hg hk
    by_cases hy0 : y = 0
    · subst hy0
      have hxe : (x : Int) = (Int.gcd (a : Int) (b : Int) : Int) := by have := HG.out; rw [Nat.gcd_zero_right] at this; rw [this]
      obtain ⟨g, hg0, e, e1, e2, e3⟩ := red_mul (a := ((a : Int), (b : Int))) (by simpa using h3)
      dsimp only at e e1 e2
      have k2 : (a : Int).tdiv (x : Int) = (red ((a : Int), (b : Int))).1 := by rw [hxe]; exact (div_red h3).1
      have k3 : (b : Int).tdiv (x : Int) = (red ((a : Int), (b : Int))).2 := by rw [hxe]; exact (div_red h3).2
      have kb := red_bd (a := ((a : Int), (b : Int))) (m := 1000000000000000000) (k := 1000000000000000000) (by simpa using h3) (by dsimp only; omega) (by dsimp only; omega) (by dsimp only; omega)
      have g0 : ¬ (x : Int) = 0 := by omega
      have g1 : ((x : Int) == 0) = false := by simp; omega
      obtain ⟨⟨r1, r2⟩, hr⟩ : ∃ r, red ((a : Int), (b : Int)) = r := ⟨_, rfl⟩
      have HR : Hid (red ((a : Int), (b : Int)) = (r1, r2)) := hr
      rw [hr] at k2 k3 kb
      dsimp only at k2 k3 kb
      have r1i := IntWalk.i64_in (n := r1) (by omega)
      have r2i := IntWalk.i64_in (n := r2) (by omega)
      clear hr e e1 e2 e3 hxe
      have hs := cell_lt c2
      have hs0 := cell_lt c0
      repeat (first | go_values | go_skip | go_guarded | go_step | go_upon)
      refine wp_region_gsp 9 2 (by kernel_rfl) (by kernel_rfl) (by kernel_rfl) (by decide) ?_
      simp only [List.take_succ_cons, List.take_zero, List.drop_succ_cons, List.drop_zero]
      have hcc := GW.cell_eq wr
      repeat (go_big_quiet_step (fail))
      refine wpQuiet_nil ?_
      rintro w5 ⟨⟨w6, k5⟩, h5⟩
      change w5 = w6 at h5
      subst h5
      have c2 := Kept.cell k5.kept c2
      have c3 := Kept.cell k5.kept c3
      have z0 := (Kept.frozen_eq k5.kept _ 0 hs).trans z0
      have z1 := (Kept.frozen_eq k5.kept _ 1 hs).trans z1
      have HK5 : Hid (Kept w w5) := HK.out.trans k5.kept
      clear hcc k5 c0 c1
      repeat (first | go_values | go_skip | go_guarded | go_step | go_upon)
      refine bodyPost_ret (v := .agg #[.int .i64 r1, .int .i64 r2]) (by simp [results, Try.results61, go_sem, *]) rfl ?_
      rw [HR.out]
      exact ⟨rfl, by repeat (first | with_reducible exact HK5.out | (with_reducible refine But.setNew ?_ (by simp) _))⟩
    · have e1 : ((y : Int) == 0) = false := by simp; omega
      have e1' : ¬ (y : Int) = 0 := by omega
      have e2 : (x : Int).tmod (y : Int) = ((x % y : Nat) : Int) := by rw [Int.tmod_eq_emod_of_nonneg (by omega)]; rfl
      have e3 : x % y < y := Nat.mod_lt _ (by omega)
      repeat (first | go_values | go_skip | go_guarded | go_step | go_upon)
      go_quiet (fail)
      repeat (first | go_values | go_skip | go_guarded | go_step | go_upon)
      refine ⟨⟨y, x % y, rfl, ?_, hy, by omega, ?_, by simp [go_sem, *], by simp [go_sem, *], by simp [go_sem, *], by simp [go_sem, *], by simp [go_sem, *], by simp [go_sem, *], ?_⟩, ?_⟩
      · simp
      · rw [← HG.out, Nat.gcd_comm y, ← Nat.gcd_rec, Nat.gcd_comm]
      · (repeat (first | with_reducible exact HK.out | with_reducible apply But.drewN | with_reducible apply But.drew | with_reducible apply But.alloc))
      · have : ((x : Int) % (y : Int)).toNat = x % y := by omega
        simp [intOf, this]
        omega

end Go.Proofs.Ythpjjpgahmkpdaa
