/-
  Small numbers as texts.
-/
import Derived.Test.YtapfafibhjpkdaaDoorLeaf15
import Derived.Test.YtapfafibhjpkdaaDoorText
import Derived.Test.YtapfafibhjpkdaaDoorQuiet
import Derived.Deep.RegionHeld3
import Derived.Deep.RegionWith
namespace Go.Proofs.YtapfafibhjpkdaaDoor
open Go.ChangeShapes Go.WideShapes Go.ChangeAt Go.RowKit

set_option maxRecDepth 100000
set_option linter.unusedVariables false

def numT (n : Nat) : ByteArray := if n < 10 then ⟨#[UInt8.ofNat (48 + n)]⟩ else ⟨#[UInt8.ofNat (48 + n / 10), UInt8.ofNat (48 + n % 10)]⟩
set_option maxHeartbeats 1000000 in
theorem small1 (n : Nat) (w : World) (h : n < 10) : Calls Tryd.prog 47 #[.int .i64 (n : Int)] w fun e w' => e = .returned (.string (numT n)) ∧ w' = w := by
  have d0 : decide ((n : Int) < 10) = true := by simp; omega
  have z0 : (0 : Int) ≤ (n : Int) := by omega
  have z1 : (n : Int) ≤ (n : Int) + 1 := by omega
  have z2 : (n : Int) + 1 ≤ 36 := by omega
  have z3 : n + 1 ≤ 36 := by omega
  have z4 : (0 : Int) ≤ (n : Int) + 1 := by omega
  go_enter Tryd.func47, Tryd.ntmps47
  repeat (first | go_values | go_skip | go_guarded | go_step | go_upon)
  go_ret
  refine ⟨?_, rfl⟩
  congr 2
  rcases (show n = 0 ∨ n = 1 ∨ n = 2 ∨ n = 3 ∨ n = 4 ∨ n = 5 ∨ n = 6 ∨ n = 7 ∨ n = 8 ∨ n = 9 by omega) with rfl | rfl | rfl | rfl | rfl | rfl | rfl | rfl | rfl | rfl <;> kernel_rfl
theorem small2 (n : Nat) (w : World) (h : 10 ≤ n) (h' : n < 64) : Calls Tryd.prog 47 #[.int .i64 (n : Int)] w fun e w' => e = .returned (.string (numT n)) ∧ w' = w := by
  have d0 : decide ((n : Int) < 10) = false := by simp; omega
  have z0 : (0 : Int) ≤ (n : Int) * 2 := by omega
  have z1 : (n : Int) * 2 ≤ (n : Int) * 2 + 2 := by omega
  have z2 : (n : Int) * 2 + 2 ≤ 200 := by omega
  have z4 : (0 : Int) ≤ (n : Int) * 2 + 2 := by omega
  go_enter Tryd.func47, Tryd.ntmps47
  repeat (first | go_values | go_skip | go_guarded | go_step | go_upon)
  go_ret
  refine ⟨?_, rfl⟩
  congr 2
  rcases (show n = 10 ∨ n = 11 ∨ n = 12 ∨ n = 13 ∨ n = 14 ∨ n = 15 ∨ n = 16 ∨ n = 17 ∨ n = 18 ∨ n = 19 ∨ n = 20 ∨ n = 21 ∨ n = 22 ∨ n = 23 ∨ n = 24 ∨ n = 25 ∨ n = 26 ∨ n = 27 ∨ n = 28 ∨ n = 29 ∨ n = 30 ∨ n = 31 ∨ n = 32 ∨ n = 33 ∨ n = 34 ∨ n = 35 ∨ n = 36 ∨ n = 37 ∨ n = 38 ∨ n = 39 ∨ n = 40 ∨ n = 41 ∨ n = 42 ∨ n = 43 ∨ n = 44 ∨ n = 45 ∨ n = 46 ∨ n = 47 ∨ n = 48 ∨ n = 49 ∨ n = 50 ∨ n = 51 ∨ n = 52 ∨ n = 53 ∨ n = 54 ∨ n = 55 ∨ n = 56 ∨ n = 57 ∨ n = 58 ∨ n = 59 ∨ n = 60 ∨ n = 61 ∨ n = 62 ∨ n = 63 by omega) with rfl | rfl | rfl | rfl | rfl | rfl | rfl | rfl | rfl | rfl | rfl | rfl | rfl | rfl | rfl | rfl | rfl | rfl | rfl | rfl | rfl | rfl | rfl | rfl | rfl | rfl | rfl | rfl | rfl | rfl | rfl | rfl | rfl | rfl | rfl | rfl | rfl | rfl | rfl | rfl | rfl | rfl | rfl | rfl | rfl | rfl | rfl | rfl | rfl | rfl | rfl | rfl | rfl | rfl <;> kernel_rfl
theorem calls_ofN {f : FuncId} {args args' : Array Value} {w : World} {Q : Ending → World → Prop} (h : Calls Tryd.prog f args' w Q) (e : args = args') : Calls Tryd.prog f args w Q := by rw [e]; exact h
theorem hcvN (u : World) (c : Int) : (convert 55 9 (.slice (some ⟨u.heap.size, 0, none⟩) 1 1)).run Tryd.prog (u.alloc (.cells #[.int .u8 c] 5)) = .ok (.string (strOfNums [c])) (u.alloc (.cells #[.int .u8 c] 5)) :=
  run_convert_bytes_arg _ 55 5 Tryd.underlying55 Tryd.underlying5 u.heap.size 0 1 1 [c] rfl (fun i hi => by
    obtain rfl : i = 0 := by omega
    simp [go_sem]) 9 Tryd.underlying9
theorem hcvB (W : World) (b : Nat) (c : Int) (h : W.cell? ⟨b, 0, none⟩ = some (.int .u8 c)) : (convert 55 9 (.slice (some ⟨b, 0, none⟩) 1 1)).run Tryd.prog W = .ok (.string (strOfNums [c])) W :=
  run_convert_bytes_arg _ 55 5 Tryd.underlying55 Tryd.underlying5 b 0 1 1 [c] rfl (fun i hi => by
    obtain rfl : i = 0 := by omega
    simpa using h) 9 Tryd.underlying9
theorem numT_size (n : Nat) : (numT n).size ≤ 2 := by
  unfold numT
  split <;> simp [ByteArray.size]
theorem snum1 (n : Nat) (w : World) (h : n < 10) : Calls Tryd.prog 21 #[.int .i64 (n : Int)] w fun e w' => e = .returned (.string (numT n)) ∧ Kept w w' := by
  have d0 : decide ((n : Int) < 10) = true := by simp; omega
  have d1 : decide ((n : Int) < 0) = false := by simp
  have hcv := hcvN
  go_enter Tryd.func21, Tryd.ntmps21
  repeat (first | go_values | go_skip | go_guarded | go_step | go_upon)
  go_ret
  refine ⟨?_, (But.refl _ _ _).alloc _⟩
  congr 2
  rcases (show n = 0 ∨ n = 1 ∨ n = 2 ∨ n = 3 ∨ n = 4 ∨ n = 5 ∨ n = 6 ∨ n = 7 ∨ n = 8 ∨ n = 9 by omega) with rfl | rfl | rfl | rfl | rfl | rfl | rfl | rfl | rfl | rfl <;> kernel_rfl
theorem app_num (n : Nat) (h : 10 ≤ n) (h' : n < 64) : numT (n / 10) ++ strOfNums [48 + ((n % 10 : Nat) : Int)] = numT n := by
  rcases (show n = 10 ∨ n = 11 ∨ n = 12 ∨ n = 13 ∨ n = 14 ∨ n = 15 ∨ n = 16 ∨ n = 17 ∨ n = 18 ∨ n = 19 ∨ n = 20 ∨ n = 21 ∨ n = 22 ∨ n = 23 ∨ n = 24 ∨ n = 25 ∨ n = 26 ∨ n = 27 ∨ n = 28 ∨ n = 29 ∨ n = 30 ∨ n = 31 ∨ n = 32 ∨ n = 33 ∨ n = 34 ∨ n = 35 ∨ n = 36 ∨ n = 37 ∨ n = 38 ∨ n = 39 ∨ n = 40 ∨ n = 41 ∨ n = 42 ∨ n = 43 ∨ n = 44 ∨ n = 45 ∨ n = 46 ∨ n = 47 ∨ n = 48 ∨ n = 49 ∨ n = 50 ∨ n = 51 ∨ n = 52 ∨ n = 53 ∨ n = 54 ∨ n = 55 ∨ n = 56 ∨ n = 57 ∨ n = 58 ∨ n = 59 ∨ n = 60 ∨ n = 61 ∨ n = 62 ∨ n = 63 by omega) with rfl | rfl | rfl | rfl | rfl | rfl | rfl | rfl | rfl | rfl | rfl | rfl | rfl | rfl | rfl | rfl | rfl | rfl | rfl | rfl | rfl | rfl | rfl | rfl | rfl | rfl | rfl | rfl | rfl | rfl | rfl | rfl | rfl | rfl | rfl | rfl | rfl | rfl | rfl | rfl | rfl | rfl | rfl | rfl | rfl | rfl | rfl | rfl | rfl | rfl | rfl | rfl | rfl | rfl <;> kernel_rfl
set_option maxHeartbeats 2000000 in
theorem snum2 (n : Nat) (w : World) (h : 10 ≤ n) (h' : n < 64) : Calls Tryd.prog 21 #[.int .i64 (n : Int)] w fun e w' => e = .returned (.string (numT n)) ∧ Kept w w' := by
  have d0 : decide ((n : Int) < 10) = false := by simp; omega
  have d1 : decide ((n : Int) < 0) = false := by simp
  have hq : (n : Int).tdiv 10 = ((n / 10 : Nat) : Int) := by rw [Int.tdiv_eq_ediv_of_nonneg (by omega)]; omega
  have hm : (n : Int).tmod 10 = ((n % 10 : Nat) : Int) := by rw [Int.tmod_eq_emod_of_nonneg (by omega)]; omega
  obtain ⟨q, hq'⟩ : ∃ q, n / 10 = q := ⟨_, rfl⟩
  obtain ⟨m, hm'⟩ : ∃ q, n % 10 = q := ⟨_, rfl⟩
  rw [hq'] at hq
  rw [hm'] at hm
  have hm9 : m < 10 := by omega
  have hq9 : q < 10 := by omega
  have e1 : IntKind.i64.wrap (48 + (m : Int)) = 48 + (m : Int) := IntWalk.i64_in _ (by omega)
  have e2 : IntKind.i64.wrap (q : Int) = (q : Int) := IntWalk.i64_in _ (by omega)
  have e3 : IntKind.i64.wrap (m : Int) = (m : Int) := IntWalk.i64_in _ (by omega)
  have e4 : IntKind.u8.wrap (48 + (m : Int)) = 48 + (m : Int) := by
    rcases (show m = 0 ∨ m = 1 ∨ m = 2 ∨ m = 3 ∨ m = 4 ∨ m = 5 ∨ m = 6 ∨ m = 7 ∨ m = 8 ∨ m = 9 by omega) with rfl | rfl | rfl | rfl | rfl | rfl | rfl | rfl | rfl | rfl <;> kernel_rfl
  have hcv := hcvN
  have HN : Hid (n / 10 = q ∧ n % 10 = m) := ⟨hq', hm'⟩
  clear hq' hm'
  have hs1 := numT_size q
  have hs2 : (strOfNums [48 + (m : Int)]).size = 1 := strOfNums_size _
  have hcv2 := hcvB
  have hs3 : ¬ 9223372036854775807 < (numT q).size + 1 := by omega
  go_enter Tryd.func21, Tryd.ntmps21
  repeat (first | go_values | go_skip | go_guarded | go_step | go_upon)
  go_region_with (first | (go_at_call 21; refine (snum1 q _ hq9).mono ?_; rintro e y2 ⟨rfl, k2⟩; have hc2 := k2.cell_eq; have hz2 := k2.size; (try simp at hz2)))
  all_goals (repeat (first | go_values | go_skip | go_guarded | go_step | go_upon))
  all_goals
    go_ret
    refine ⟨?_, ?_⟩
    · obtain ⟨h1, h2⟩ := HN.out
      subst h1
      subst h2
      exact congrArg (fun s => Ending.returned (.string s)) (app_num n h h')
    · (repeat (first | with_reducible exact But.trans (by (repeat (first | with_reducible exact But.refl _ _ _ | with_reducible apply But.drewN | with_reducible apply But.drew | with_reducible apply But.alloc))) k2 | with_reducible apply But.drewN | with_reducible apply But.drew | with_reducible apply But.alloc))
theorem snum (n : Nat) (w : World) (h : n < 64) : Calls Tryd.prog 21 #[.int .i64 (n : Int)] w fun e w' => e = .returned (.string (numT n)) ∧ Kept w w' := by
  by_cases h1 : n < 10
  · exact snum1 n w h1
  · exact snum2 n w (by omega) h
theorem ismall (n : Nat) (w : World) (h : n < 64) : Calls Tryd.prog 47 #[.int .i64 (n : Int)] w fun e w' => e = .returned (.string (numT n)) ∧ w' = w := by
  by_cases h1 : n < 10
  · exact small1 n w h1
  · exact small2 n w (by omega) h
theorem iformat (n : Nat) (w : World) (h : n < 64) : Calls Tryd.prog 42 #[.int .i64 (n : Int), .int .i64 10] w fun e w' => e = .returned (.string (numT n)) ∧ w' = w := by
  have d0 : decide ((0 : Int) ≤ (n : Int)) = true := by simp
  have d1 : decide ((n : Int) < 100) = true := by simp; omega
  go_enter Tryd.func42, Tryd.ntmps42
  repeat (first | (go_at_call 47; refine (ismall n _ h).mono ?_; rintro e w' ⟨rfl, rfl⟩; dsimp only) | go_values | go_skip | go_guarded | go_step | go_upon)
  go_ret
  exact ⟨rfl, rfl⟩
theorem iitoa0 (n : Nat) (w : World) (h : n < 64) : Calls Tryd.prog 37 #[.int .i64 (n : Int)] w fun e w' => e = .returned (.string (numT n)) ∧ w' = w := by
  go_enter Tryd.func37, Tryd.ntmps37
  repeat (first | (go_at_call 42; refine (iformat n _ h).mono ?_; rintro e w' ⟨rfl, rfl⟩; dsimp only) | go_values | go_skip | go_guarded | go_step | go_upon)
  go_ret
  exact ⟨rfl, rfl⟩
theorem iitoa (n : Nat) (w : World) (h : n < 64) : Calls Tryd.prog 25 #[.int .i64 (n : Int)] w fun e w' => e = .returned (.string (numT n)) ∧ w' = w := by
  go_enter Tryd.func25, Tryd.ntmps25
  repeat (first | (go_at_call 37; refine (iitoa0 n _ h).mono ?_; rintro e w' ⟨rfl, rfl⟩; dsimp only) | go_values | go_skip | go_guarded | go_step | go_upon)
  go_ret
  exact ⟨rfl, rfl⟩

end Go.Proofs.YtapfafibhjpkdaaDoor
