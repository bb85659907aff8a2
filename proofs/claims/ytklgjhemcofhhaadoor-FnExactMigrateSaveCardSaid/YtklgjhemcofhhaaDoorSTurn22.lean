/-
  A number by a change, in the specification.
-/
import Derived.Test.YtklgjhemcofhhaaDoorMath
import Derived.Test.YtklgjhemcofhhaaDoorMigP22
import Derived.Test.YtklgjhemcofhhaaDoorSGood22
import Derived.Deep.Cut
import Derived.Laws.Externs
import Derived.Test.YtklgjhemcofhhaaDoorQuiet
import Derived.BigQuiet
import Derived.WalkLawsBesides
namespace Go.Proofs.YtklgjhemcofhhaaDoor
open Go.ChangeShapes Go.WideShapes Go.ChangeAt Go.RowKit

set_option maxRecDepth 100000
set_option linter.unusedVariables false
set_option linter.unusedSimpArgs false
theorem retI {k : IntKind} {a b : Int} (h : a = b) : Ending.returned (.int k a) = .returned (.int k b) := by rw [h]
theorem ret_wide {a b c d : Int} (h : a = c) (h' : b = d) : Ending.returned (.agg #[.int .u64 a, .int .u64 b]) = .returned (.agg #[.int .u64 c, .int .u64 d]) := by rw [h, h']
set_option maxHeartbeats 400000 in
theorem times_any (a b : Int) (w : World) (ha : 0 ≤ a) (ha' : a < 18446744073709551616) (hb : 0 ≤ b) (hb' : b < 18446744073709551616) :
    Calls Tryd.prog 47 #[.int .u64 a, .int .u64 b] w fun e w' => e = .returned (.agg #[.int .u64 (a*b/18446744073709551616), .int .u64 (a*b%18446744073709551616)]) ∧ Grown w w' := by
  go_enter Tryd.func47, Tryd.ntmps47
  go_wp2
  go_returns
  refine ⟨?_, by go_grown⟩
  obtain ⟨e, hp, hq, hr, hs⟩ := Plain.halves a b ha ha' hb hb'
  rw [e]
  generalize a / 4294967296 * (b / 4294967296) = p at *
  generalize a / 4294967296 * (b % 4294967296) = q at *
  generalize a % 4294967296 * (b / 4294967296) = r at *
  generalize a % 4294967296 * (b % 4294967296) = s at *
  clear e ha ha' hb hb'
  simp only [IntKind.wrap_u64]
  have s1 : s % 18446744073709551616 = s := by omega
  have q1 : q % 18446744073709551616 = q := by omega
  have p1 : p % 18446744073709551616 = p := by omega
  have r1 : r % 18446744073709551616 = r := by omega
  simp only [s1, q1, p1, r1]
  have d1 : s.tdiv 4294967296 = s / 4294967296 := Int.tdiv_eq_ediv_of_nonneg hs.1
  have m1 : s.tmod 4294967296 = s % 4294967296 := Int.tmod_eq_emod_of_nonneg hs.1
  simp only [d1, m1]
  have s2 : s / 4294967296 % 18446744073709551616 = s / 4294967296 := by omega
  simp only [s2]
  have t1 : (q + s / 4294967296) % 18446744073709551616 = q + s / 4294967296 := by omega
  simp only [t1]
  have d2 : (q + s / 4294967296).tdiv 4294967296 = (q + s / 4294967296) / 4294967296 := Int.tdiv_eq_ediv_of_nonneg (by omega)
  have m2 : (q + s / 4294967296).tmod 4294967296 = (q + s / 4294967296) % 4294967296 := Int.tmod_eq_emod_of_nonneg (by omega)
  simp only [d2, m2]
  have t2 : (r + (q + s / 4294967296) % 4294967296) % 18446744073709551616 = r + (q + s / 4294967296) % 4294967296 := by omega
  simp only [t2]
  have d3 : (r + (q + s / 4294967296) % 4294967296).tdiv 4294967296 = (r + (q + s / 4294967296) % 4294967296) / 4294967296 := Int.tdiv_eq_ediv_of_nonneg (by omega)
  simp only [d3]
  have o1 : (r + (q + s / 4294967296) % 4294967296) * 4294967296 % 18446744073709551616 = (r + (q + s / 4294967296) % 4294967296) % 4294967296 * 4294967296 := by omega
  rw [o1, Plain.or32 _ _ (by omega) (by omega) (by omega) (by omega)]
  exact ret_wide (by omega) (by omega)


theorem gblock {W w1 : World} (h : Grown W w1) (b : Nat) (hb : b < W.heap.size) : w1.heap[b]? = W.heap[b]? := by
  have hk := h.1.2.2 b hb
  cases e1 : W.heap[b]? with
  | none => rw [e1] at hk; simpa using hk
  | some o =>
    rw [e1] at hk
    cases e2 : w1.heap[b]? with
    | none => rw [e2] at hk; cases o <;> simp at hk
    | some o' =>
      rw [e2] at hk
      cases o <;> cases o' <;> simp at hk ⊢ <;> first
        | exact hk
        | (obtain ⟨h1, h2, h3, h4⟩ := hk; exact ⟨Array.ext_getElem? h4, h1, h2⟩)
        | skip
theorem kept_grown {W w : World} (h : Grown W w) : Kept W w := ⟨h.1.1, h.1.2.1, h.2.2, fun b hb _ => gblock h b hb⟩
theorem sabs (x : Int) (w : World) (hx : -1000000 ≤ x ∧ x ≤ 1000000) : Calls Tryd.prog 48 #[.int .i64 x] w fun e w' => e = .returned (.int .i64 (if x < 0 then -x else x)) ∧ w' = w := by
  have e1 : IntKind.i64.wrap (-x) = -x := IntWalk.i64_in _ (by omega)
  go_enter Tryd.func48, Tryd.ntmps48
  go_wp2
  all_goals
    go_ret
    exact ⟨rfl, rfl⟩
theorem ssize (x : Int) (w : World) (hx : -9223372036854775808 ≤ x ∧ x ≤ 9223372036854775807) : Calls Tryd.prog 49 #[.int .i64 x] w fun e w' => e = .returned (.int .u64 (if x < 0 then -x else x)) ∧ w' = w := by
  by_cases h : x < 0
  · rw [if_pos h]
    have d : decide (x < 0) = true := decide_eq_true h
    have e1 : IntKind.i64.wrap (x + 1) = x + 1 := IntWalk.i64_in _ (by omega)
    have e2 : IntKind.i64.wrap (-(x + 1)) = -(x + 1) := IntWalk.i64_in _ (by omega)
    have e3 : IntKind.u64.wrap (-(x + 1)) = -(x + 1) := by rw [IntKind.wrap_u64]; omega
    have e4 : IntKind.u64.wrap (-(x + 1) + 1) = -x := by rw [IntKind.wrap_u64]; omega
    go_enter Tryd.func49, Tryd.ntmps49
    repeat (first | go_values | go_skip | go_guarded | go_step | go_upon)
    go_ret
    exact ⟨rfl, rfl⟩
  · rw [if_neg h]
    have d : decide (x < 0) = false := decide_eq_false h
    have e3 : IntKind.u64.wrap x = x := by rw [IntKind.wrap_u64]; omega
    go_enter Tryd.func49, Tryd.ntmps49
    repeat (first | go_values | go_skip | go_guarded | go_step | go_upon)
    go_ret
    exact ⟨rfl, rfl⟩
theorem mul_sizes (x y : Int) : (if x < 0 then -x else x) * (if y < 0 then -y else y) = if x * y < 0 then -(x * y) else x * y := by
  by_cases hx : x < 0 <;> by_cases hy : y < 0
  · rw [if_pos hx, if_pos hy, if_neg (by have := Int.mul_pos_of_neg_of_neg hx hy; omega), Int.neg_mul_neg]
  · rw [if_pos hx, if_neg hy]
    by_cases h0 : y = 0
    · subst h0; simp
    · rw [if_pos (Int.mul_neg_of_neg_of_pos hx (by omega)), Int.neg_mul]
  · rw [if_neg hx, if_pos hy]
    by_cases h0 : x = 0
    · subst h0; simp
    · rw [if_pos (Int.mul_neg_of_pos_of_neg (by omega) hy), Int.mul_neg]
  · rw [if_neg hx, if_neg hy, if_neg (by have := Int.mul_nonneg (show 0 ≤ x by omega) (show 0 ≤ y by omega); omega)]
theorem size_bound {x y : Int} (hx : 0 ≤ x ∧ x ≤ 1000000) (hy : 0 ≤ y ∧ y ≤ 9223372036854775808) : 0 ≤ x * y ∧ x * y ≤ 9223372036854775808000000 := by
  refine ⟨Int.mul_nonneg hx.1 hy.1, ?_⟩
  have h1 : x * y ≤ 1000000 * y := Int.mul_le_mul_of_nonneg_right hx.2 hy.1
  omega
def numR (kd b n : Int) : Int := if kd = 3 then (if -1000000000000000 ≤ b * n ∧ b * n ≤ 1000000000000000 then b * n else 0) else (if -2000000000000000 ≤ n ∧ n ≤ 2000000000000000 then n + b else 0)
theorem num_turn {kd b n m : Int} (hb : -1000000 ≤ b ∧ b ≤ 1000000) (h : turnL kd b n = some m) : numR kd b n = m := by
  unfold turnL at h
  unfold numR
  split at h
  · rename_i e
    rw [if_pos e]
    split at h
    · rename_i e2
      rw [if_pos e2]
      cases h
      rfl
    · cases h
  · rename_i e
    rw [if_neg e]
    split at h
    · rename_i e2
      rw [if_pos (by omega)]
      cases h
      rfl
    · cases h
set_option maxHeartbeats 4000000 in
theorem sturn (f0 f1 : Int) (f2 f3 : ByteArray) (f4 n : Int) (w : World) (hb : -1000000 ≤ f4 ∧ f4 ≤ 1000000) (hn : -9223372036854775808 ≤ n ∧ n ≤ 9223372036854775807) :
    Calls Tryd.prog 36 #[.agg #[.int .i64 f0, .int .i64 f1, .string f2, .string f3, .int .i64 f4], .int .i64 n] w fun e w' => e = .returned (.tuple #[.int .i64 (numR f1 f4 n), .bool (turnL f1 f4 n).isSome]) ∧ Kept w w' := by
  by_cases e3 : f1 = 3
  · subst e3
    have hT : turnL 3 f4 n = if -1000000000000000 ≤ f4 * n ∧ f4 * n ≤ 1000000000000000 then some (f4 * n) else none := by unfold turnL; rw [if_pos rfl]
    have ha : 0 ≤ (if f4 < 0 then -f4 else f4) ∧ (if f4 < 0 then -f4 else f4) ≤ 1000000 := by split <;> omega
    have hc : 0 ≤ (if n < 0 then -n else n) ∧ (if n < 0 then -n else n) ≤ 9223372036854775808 := by split <;> omega
    have hm := mul_sizes f4 n
    have hab := size_bound ha hc
    have AB1 : Hid (∀ W, Calls Tryd.prog 48 #[.int .i64 f4] W fun e w' => e = .returned (.int .i64 (if f4 < 0 then -f4 else f4)) ∧ w' = W) := fun W => sabs f4 W hb
    have AB2 : Hid (∀ W, Calls Tryd.prog 49 #[.int .i64 n] W fun e w' => e = .returned (.int .u64 (if n < 0 then -n else n)) ∧ w' = W) := fun W => ssize n W hn
    generalize (if f4 < 0 then -f4 else f4) = a at *
    generalize (if n < 0 then -n else n) = c at *
    have AB3 : Hid (∀ W, Calls Tryd.prog 47 #[.int .u64 a, .int .u64 c] W fun e w' => e = .returned (.agg #[.int .u64 (a*c/18446744073709551616), .int .u64 (a*c%18446744073709551616)]) ∧ Kept W w') := fun W => (times_any a c W ha.1 (by omega) hc.1 (by omega)).mono (fun e w' h => ⟨h.1, kept_grown h.2⟩)
    have ea : IntKind.u64.wrap a = a := by rw [IntKind.wrap_u64]; omega
    generalize hP : f4 * n = P at *
    generalize a * c = M at *
    have hMP : M = if P < 0 then -P else P := hm
    have hNR : numR 3 f4 n = if -1000000000000000 ≤ P ∧ P ≤ 1000000000000000 then P else 0 := by unfold numR; rw [if_pos rfl, hP]
    rw [hT, hNR]
    clear hT hm ha hc hNR
    by_cases hok : -1000000000000000 ≤ P ∧ P ≤ 1000000000000000
    · rw [if_pos hok, if_pos hok]
      have hM : M ≤ 1000000000000000 := by rw [hMP]; split <;> omega
      have q1 : M / 18446744073709551616 = 0 := by omega
      have q2 : M % 18446744073709551616 = M := by omega
      have d2 : decide (1000000000000000 < M) = false := decide_eq_false (by omega)
      have eP : IntKind.i64.wrap (f4 * n) = P := by rw [hP, IntWalk.i64_in _ (by omega)]
      rw [q1, q2] at AB3
      clear hMP hab hP hok hM q1 q2 hb hn
      go_enter Tryd.func36, Tryd.ntmps36
      repeat (first | (go_at_call 48; with_reducible refine (AB1.out _).mono ?_; rintro e w3 ⟨rfl, hw3⟩; rw [hw3]; clear hw3 w3; dsimp only) | (go_at_call 49; with_reducible refine (AB2.out _).mono ?_; rintro e w3 ⟨rfl, hw3⟩; rw [hw3]; clear hw3 w3; dsimp only) | go_values | go_skip | go_guarded | go_step | go_upon)
      go_at_call 47
      with_reducible refine (AB3.out _).mono ?_
      rintro e w4 ⟨rfl, k4⟩
      have HK4 : Hid (Kept w w4) := ((But.refl _ _ _).alloc _).trans k4
      have L4 := (Loc.new w [.int .i64 f0, .int .i64 3, .string f2, .string f3, .int .i64 f4] 70).kept k4
      have y4 := L4.cell 4 (v := .int .i64 f4) rfl
      have yl := L4.lt
      clear L4 k4
      dsimp only
      repeat (first | go_values | go_skip | go_guarded | go_step | go_upon)
      go_ret2
      exact ⟨rfl, HK4.out.alloc _⟩
    · rw [if_neg hok, if_neg hok]
      have hM : 1000000000000000 < M := by rw [hMP]; split <;> omega
      obtain ⟨X, hX⟩ : ∃ X, M / 18446744073709551616 = X := ⟨_, rfl⟩
      obtain ⟨Y, hY⟩ : ∃ Y, M % 18446744073709551616 = Y := ⟨_, rfl⟩
      have hor : 0 < X ∨ 1000000000000000 < Y := by omega
      have hX0 : 0 ≤ X := by omega
      rw [hX, hY] at AB3
      clear hMP hab hP hok hM hb hn hX hY
      by_cases hx : 0 < X
      · have d1 : decide (0 < X) = true := decide_eq_true hx
        clear hor hX0
        go_enter Tryd.func36, Tryd.ntmps36
        repeat (first | (go_at_call 48; with_reducible refine (AB1.out _).mono ?_; rintro e w3 ⟨rfl, hw3⟩; rw [hw3]; clear hw3 w3; dsimp only) | (go_at_call 49; with_reducible refine (AB2.out _).mono ?_; rintro e w3 ⟨rfl, hw3⟩; rw [hw3]; clear hw3 w3; dsimp only) | (go_at_call 47; with_reducible refine (AB3.out _).mono ?_; rintro e w4 ⟨rfl, k4⟩; dsimp only) | go_values | go_skip | go_guarded | go_step | go_upon)
        go_ret2
        exact ⟨rfl, (((But.refl _ _ _).alloc _).trans k4).alloc _⟩
      · have d1 : decide (0 < X) = false := decide_eq_false hx
        have d2 : decide (1000000000000000 < Y) = true := decide_eq_true (by omega)
        clear hor hX0 hx
        go_enter Tryd.func36, Tryd.ntmps36
        repeat (first | (go_at_call 48; with_reducible refine (AB1.out _).mono ?_; rintro e w3 ⟨rfl, hw3⟩; rw [hw3]; clear hw3 w3; dsimp only) | (go_at_call 49; with_reducible refine (AB2.out _).mono ?_; rintro e w3 ⟨rfl, hw3⟩; rw [hw3]; clear hw3 w3; dsimp only) | (go_at_call 47; with_reducible refine (AB3.out _).mono ?_; rintro e w4 ⟨rfl, k4⟩; dsimp only) | go_values | go_skip | go_guarded | go_step | go_upon)
        go_ret2
        exact ⟨rfl, (((But.refl _ _ _).alloc _).trans k4).alloc _⟩
  · have n3 : (f1 == 3) = false := by simpa using e3
    have hT : turnL f1 f4 n = if -1000000000000000 ≤ n + f4 ∧ n + f4 ≤ 1000000000000000 then some (n + f4) else none := by unfold turnL; rw [if_neg e3]
    have hNR : numR f1 f4 n = if -2000000000000000 ≤ n ∧ n ≤ 2000000000000000 then n + f4 else 0 := by unfold numR; rw [if_neg e3]
    rw [hT, hNR]
    clear hT e3 hNR
    have AI : Hid (∀ W, Calls Tryd.prog 24 #[.int .i64 n, .int .i64 (-2000000000000000), .int .i64 2000000000000000] W fun e w' => e = .returned (.bool (decide (-2000000000000000 ≤ n ∧ n ≤ 2000000000000000))) ∧ w' = W) := fun W => sInG _ _ _ W
    have AJ : Hid (∀ W, Calls Tryd.prog 24 #[.int .i64 (n + f4), .int .i64 (-1000000000000000), .int .i64 1000000000000000] W fun e w' => e = .returned (.bool (decide (-1000000000000000 ≤ n + f4 ∧ n + f4 ≤ 1000000000000000))) ∧ w' = W) := fun W => sInG _ _ _ W
    by_cases h2 : -2000000000000000 ≤ n ∧ n ≤ 2000000000000000
    · rw [decide_eq_true h2] at AI
      rw [if_pos h2]
      have e1 : IntKind.i64.wrap (n + f4) = n + f4 := IntWalk.i64_in _ (by omega)
      have hres : (if -1000000000000000 ≤ n + f4 ∧ n + f4 ≤ 1000000000000000 then some (n + f4) else none).isSome = decide (-1000000000000000 ≤ n + f4 ∧ n + f4 ≤ 1000000000000000) := by split <;> simp [*]
      rw [hres]
      skip
      generalize decide (-1000000000000000 ≤ n + f4 ∧ n + f4 ≤ 1000000000000000) = J at *
      clear hres h2 hb hn
      have L0 := Loc.new w [.int .i64 f0, .int .i64 f1, .string f2, .string f3, .int .i64 f4] 70
      have HL0 : Hid (Loc (w.alloc (.cells [.int .i64 f0, .int .i64 f1, .string f2, .string f3, .int .i64 f4].toArray 70)) w.heap.size [.int .i64 f0, .int .i64 f1, .string f2, .string f3, .int .i64 f4]) := L0
      go_enter Tryd.func36, Tryd.ntmps36
      repeat (first | (go_at_call 24; with_reducible refine (AI.out _).mono ?_; rintro e w3 ⟨rfl, hw3⟩; rw [hw3]; clear hw3 w3; dsimp only) | (go_not_at_region 8; first | go_values | go_skip | go_guarded | go_step | go_upon))
      refine forgetX (fun W6 => Kept w W6 ∧ Loc W6 w.heap.size [.int .i64 f0, .int .i64 f1, .string f2, .string f3, .int .i64 f4]) ⟨(But.refl _ _ _).alloc _, HL0.out⟩ ?_
      intro W6 hW6
      obtain ⟨k6, LX⟩ := hW6
      have HK6 : Hid (Kept w W6) := k6
      have x4 := LX.cell 4 (v := .int .i64 f4) rfl
      have xl := LX.lt
      clear k6 LX L0
      repeat (first | go_values | go_skip | go_guarded | go_step | go_upon)
      refine wp_region_kept (by kernel_rfl) (by kernel_rfl) ?_
      have hne := kw_some W6
      have hcc := KW.cell_eq W6
      have hcf := fun (x : KW W6) (b o : Nat) (hb : b < W6.heap.size) => x.k.frozen_eq b o hb
      repeat (first | (go_big_quiet_step (first | (go_at_call 24; with_reducible exact kw_same (AJ.out _)))) | (go_big_quiet_want; go_big_quiet_op; refine ⟨_, fun _ => (by with_reducible rfl), ?_⟩; go_big_quiet_on))
      refine wpQuiet_nil ?_
      rintro w5 ⟨⟨w8, k5⟩, h9⟩
      change w5 = w8 at h9
      subst h9
      clear hcc hne hcf
      repeat (first | go_values | go_skip | go_guarded | go_step | go_upon)
      go_ret2
      exact ⟨rfl, HK6.out.trans k5⟩
    · rw [decide_eq_false h2] at AI
      rw [if_neg h2, if_neg (by omega)]
      clear h2 hb hn
      go_enter Tryd.func36, Tryd.ntmps36
      repeat (first | (go_at_call 24; with_reducible refine (AI.out _).mono ?_; rintro e w3 ⟨rfl, hw3⟩; rw [hw3]; clear hw3 w3; dsimp only) | go_values | go_skip | go_guarded | go_step | go_upon)
      go_ret2
      exact ⟨rfl, (But.refl _ _ _).alloc _⟩

end Go.Proofs.YtklgjhemcofhhaaDoor
