/-
  The languages of the program.
-/
import Derived.Test.YtkldfeicpenkmaaForm19
namespace Go.Proofs.Ytkldfeicpenkmaa
open Go.ChangeShapes Go.WideShapes Go.ChangeAt Go.RowKit

set_option maxRecDepth 100000
set_option linter.unusedVariables false
set_option linter.unusedSimpArgs false

theorem num_lit1 (w : World) (lo B : Nat) (a : Int) (hB : w.heap.size = B) (hlo : lo ≤ w.heap.size) : NumO (w.alloc (.cells #[.int .i64 a] 3)) lo (w.alloc (.cells #[.int .i64 a] 3)).heap.size (.slice (some ⟨B, 0, none⟩) 1 1) [a] := by
  subst hB
  refine ⟨⟨rfl, Or.inr ⟨w.heap.size, 1, _, rfl, hlo, heap_alloc_new w _, Nat.le_refl _, by unfold maxLen; omega, rfl, rfl⟩⟩, fun g hg => ?_⟩
  simp [Value.ownBlock] at hg
  simp
  omega

theorem num_lit2 (w : World) (lo B : Nat) (a b : Int) (hB : w.heap.size = B) (hlo : lo ≤ w.heap.size) : NumO (w.alloc (.cells #[.int .i64 a, .int .i64 b] 3)) lo (w.alloc (.cells #[.int .i64 a, .int .i64 b] 3)).heap.size (.slice (some ⟨B, 0, none⟩) 2 2) [a, b] := by
  subst hB
  refine ⟨⟨rfl, Or.inr ⟨w.heap.size, 2, _, rfl, hlo, heap_alloc_new w _, Nat.le_refl _, by unfold maxLen; omega, rfl, rfl⟩⟩, fun g hg => ?_⟩
  simp [Value.ownBlock] at hg
  simp
  omega

theorem num_lit3 (w : World) (lo B : Nat) (a b d : Int) (hB : w.heap.size = B) (hlo : lo ≤ w.heap.size) : NumO (w.alloc (.cells #[.int .i64 a, .int .i64 b, .int .i64 d] 3)) lo (w.alloc (.cells #[.int .i64 a, .int .i64 b, .int .i64 d] 3)).heap.size (.slice (some ⟨B, 0, none⟩) 3 3) [a, b, d] := by
  subst hB
  refine ⟨⟨rfl, Or.inr ⟨w.heap.size, 3, _, rfl, hlo, heap_alloc_new w _, Nat.le_refl _, by unfold maxLen; omega, rfl, rfl⟩⟩, fun g hg => ?_⟩
  simp [Value.ownBlock] at hg
  simp
  omega

theorem num_lit5 (w : World) (lo B : Nat) (a b d e f : Int) (hB : w.heap.size = B) (hlo : lo ≤ w.heap.size) : NumO (w.alloc (.cells #[.int .i64 a, .int .i64 b, .int .i64 d, .int .i64 e, .int .i64 f] 3)) lo (w.alloc (.cells #[.int .i64 a, .int .i64 b, .int .i64 d, .int .i64 e, .int .i64 f] 3)).heap.size (.slice (some ⟨B, 0, none⟩) 5 5) [a, b, d, e, f] := by
  subst hB
  refine ⟨⟨rfl, Or.inr ⟨w.heap.size, 5, _, rfl, hlo, heap_alloc_new w _, Nat.le_refl _, by unfold maxLen; omega, rfl, rfl⟩⟩, fun g hg => ?_⟩
  simp [Value.ownBlock] at hg
  simp
  omega

set_option maxHeartbeats 4000000 in
theorem t_ar (s : ByteArray) (hs : s.toList = [97, 114]) (w : World) : Calls Try.prog 27 #[.string s] w fun e w' => ∃ g, e = .returned (.tuple #[.agg #[.func (.func 39) #[] #[], .slice (some ⟨g, 0, none⟩) 5 5], .bool true]) ∧ NumO w' w.heap.size w'.heap.size (.slice (some ⟨g, 0, none⟩) 5 5) [1, 2, 3, 4, 5] ∧ Kept w w' := by
  have e_ar : (s.toList == [97, 114]) = true := by rw [hs]; decide
  have e_cs : (s.toList == [99, 115]) = false := by rw [hs]; decide
  have e_en : (s.toList == [101, 110]) = false := by rw [hs]; decide
  have e_fr : (s.toList == [102, 114]) = false := by rw [hs]; decide
  have e_ja : (s.toList == [106, 97]) = false := by rw [hs]; decide
  have e_pl : (s.toList == [112, 108]) = false := by rw [hs]; decide
  have e_ru : (s.toList == [114, 117]) = false := by rw [hs]; decide
  clear hs
  have hst : ∀ (W : World) (a : Addr) (f : Nat), Sem.run Try.prog (store a (.func (.func f) #[] #[])) W = stored Try.prog W a (.func (.func f) #[] #[]) .plain := fun W a f => run_store Try.prog W a _ _ rfl
  have hst0 : ∀ (W : World) (a : Addr), Sem.run Try.prog (store a .nilFunc) W = stored Try.prog W a .nilFunc .plain := fun W a => run_store Try.prog W a _ _ rfl
  go_enter Try.func27, Try.ntmps27
  repeat (first | go_values | go_skip | go_guarded | go_step | go_upon)
  refine bodyPost_ret (v := .tuple #[.agg #[.func (.func 39) #[] #[], .slice (some ⟨w.heap.size + 1, 0, none⟩) 5 5], .bool true]) (by simp [results, Try.results27, go_sem]) rfl ?_
  exact ⟨_, rfl, num_lit5 _ _ _ 1 2 3 4 5 (by simp) (by simp), ((But.refl _ _ _).alloc _).alloc _⟩
set_option maxHeartbeats 4000000 in
theorem p_ar (s : ByteArray) (hs : s.toList = [97, 114]) (n : Int) (hc : 0 ≤ n ∧ n ≤ 1000000000) (w : World) : Calls Try.prog 8 #[.string s, .int .i64 n] w fun e w' => e = .returned (.int .i64 (plur_ar n)) ∧ Kept w w' := by
  have dc : decide (0 ≤ n ∧ n ≤ 1000000000) = true := decide_eq_true hc
  have h0' := hc.1
  have HT : Hid (∀ W, Calls Try.prog 27 #[.string s] W fun e w' => ∃ g, e = .returned (.tuple #[.agg #[.func (.func 39) #[] #[], .slice (some ⟨g, 0, none⟩) 5 5], .bool true]) ∧ NumO w' W.heap.size w'.heap.size (.slice (some ⟨g, 0, none⟩) 5 5) [1, 2, 3, 4, 5] ∧ Kept W w') := fun W => t_ar s hs W
  clear hs
  have hst : ∀ (W : World) (a : Addr) (f : Nat), Sem.run Try.prog (store a (.func (.func f) #[] #[])) W = stored Try.prog W a (.func (.func f) #[] #[]) .plain := fun W a f => run_store Try.prog W a _ _ rfl
  have hst0 : ∀ (W : World) (a : Addr), Sem.run Try.prog (store a .nilFunc) W = stored Try.prog W a .nilFunc .plain := fun W a => run_store Try.prog W a _ _ rfl
  go_enter Try.func8, Try.ntmps8
  repeat (first | (go_at_call 27; refine (HT.out _).mono ?_; rintro e w2 ⟨g, rfl, -, k2⟩; dsimp only) | (go_at_call 28; refine (icounted _ _).mono ?_; rintro e w3 ⟨rfl, hw3⟩; rw [hw3, dc]; clear hw3 w3; dsimp only) | (go_at_call 39; refine (iar n h0' _).mono ?_; rintro e w3 ⟨rfl, hw3⟩; rw [hw3]; clear hw3 w3; dsimp only) | go_values | go_skip | go_guarded | go_step | go_upon)
  go_ret
  exact ⟨rfl, k2.alloc _⟩
set_option maxHeartbeats 4000000 in
theorem f_ar (s : ByteArray) (hs : s.toList = [97, 114]) (w : World) : Calls Try.prog 10 #[.string s] w fun e w' => ∃ v', e = .returned v' ∧ NumO w' w.heap.size w'.heap.size v' [1, 2, 3, 4, 5] ∧ Kept w w' := by
  have HT : Hid (∀ W, Calls Try.prog 27 #[.string s] W fun e w' => ∃ g, e = .returned (.tuple #[.agg #[.func (.func 39) #[] #[], .slice (some ⟨g, 0, none⟩) 5 5], .bool true]) ∧ NumO w' W.heap.size w'.heap.size (.slice (some ⟨g, 0, none⟩) 5 5) [1, 2, 3, 4, 5] ∧ Kept W w') := fun W => t_ar s hs W
  clear hs
  have hst : ∀ (W : World) (a : Addr) (f : Nat), Sem.run Try.prog (store a (.func (.func f) #[] #[])) W = stored Try.prog W a (.func (.func f) #[] #[]) .plain := fun W a f => run_store Try.prog W a _ _ rfl
  have hst0 : ∀ (W : World) (a : Addr), Sem.run Try.prog (store a .nilFunc) W = stored Try.prog W a .nilFunc .plain := fun W a => run_store Try.prog W a _ _ rfl
  go_enter Try.func10, Try.ntmps10
  repeat (first | (go_at_call 27; refine (HT.out _).mono ?_; rintro e w2 ⟨g, rfl, o2, k2⟩; dsimp only) | go_values | go_skip | go_guarded | go_step | go_upon)
  go_ret
  exact ⟨_, rfl, NumO.low (o2.kept ((But.refl _ _ _).alloc _)), k2.alloc _⟩
set_option maxHeartbeats 4000000 in
theorem g_ar (s : ByteArray) (hs : s.toList = [97, 114]) (w : World) : Calls Try.prog 9 #[.string s] w fun e w' => ∃ v', e = .returned v' ∧ NumO w' w.heap.size w'.heap.size v' [1, 2, 3, 4, 5] ∧ Kept w w' := by
  have e_ar : (s.toList == [97, 114]) = true := by rw [hs]; decide
  have e_cs : (s.toList == [99, 115]) = false := by rw [hs]; decide
  have e_en : (s.toList == [101, 110]) = false := by rw [hs]; decide
  have e_fr : (s.toList == [102, 114]) = false := by rw [hs]; decide
  have e_ja : (s.toList == [106, 97]) = false := by rw [hs]; decide
  have e_pl : (s.toList == [112, 108]) = false := by rw [hs]; decide
  have e_ru : (s.toList == [114, 117]) = false := by rw [hs]; decide
  clear hs
  go_enter Try.func9, Try.ntmps9
  repeat (first | go_values | go_skip | go_guarded | go_step | go_upon)
  go_ret
  exact ⟨_, rfl, num_lit5 _ _ _ 1 2 3 4 5 (by simp) (by simp), (But.refl _ _ _).alloc _⟩

set_option maxHeartbeats 4000000 in
theorem t_cs (s : ByteArray) (hs : s.toList = [99, 115]) (w : World) : Calls Try.prog 27 #[.string s] w fun e w' => ∃ g, e = .returned (.tuple #[.agg #[.func (.func 40) #[] #[], .slice (some ⟨g, 0, none⟩) 3 3], .bool true]) ∧ NumO w' w.heap.size w'.heap.size (.slice (some ⟨g, 0, none⟩) 3 3) [1, 3, 5] ∧ Kept w w' := by
  have e_ar : (s.toList == [97, 114]) = false := by rw [hs]; decide
  have e_cs : (s.toList == [99, 115]) = true := by rw [hs]; decide
  have e_en : (s.toList == [101, 110]) = false := by rw [hs]; decide
  have e_fr : (s.toList == [102, 114]) = false := by rw [hs]; decide
  have e_ja : (s.toList == [106, 97]) = false := by rw [hs]; decide
  have e_pl : (s.toList == [112, 108]) = false := by rw [hs]; decide
  have e_ru : (s.toList == [114, 117]) = false := by rw [hs]; decide
  clear hs
  have hst : ∀ (W : World) (a : Addr) (f : Nat), Sem.run Try.prog (store a (.func (.func f) #[] #[])) W = stored Try.prog W a (.func (.func f) #[] #[]) .plain := fun W a f => run_store Try.prog W a _ _ rfl
  have hst0 : ∀ (W : World) (a : Addr), Sem.run Try.prog (store a .nilFunc) W = stored Try.prog W a .nilFunc .plain := fun W a => run_store Try.prog W a _ _ rfl
  go_enter Try.func27, Try.ntmps27
  repeat (first | go_values | go_skip | go_guarded | go_step | go_upon)
  refine bodyPost_ret (v := .tuple #[.agg #[.func (.func 40) #[] #[], .slice (some ⟨w.heap.size + 1, 0, none⟩) 3 3], .bool true]) (by simp [results, Try.results27, go_sem]) rfl ?_
  exact ⟨_, rfl, num_lit3 _ _ _ 1 3 5 (by simp) (by simp), ((But.refl _ _ _).alloc _).alloc _⟩
set_option maxHeartbeats 4000000 in
theorem p_cs (s : ByteArray) (hs : s.toList = [99, 115]) (n : Int) (hc : 0 ≤ n ∧ n ≤ 1000000000) (w : World) : Calls Try.prog 8 #[.string s, .int .i64 n] w fun e w' => e = .returned (.int .i64 (plur_cs n)) ∧ Kept w w' := by
  have dc : decide (0 ≤ n ∧ n ≤ 1000000000) = true := decide_eq_true hc
  have h0' := hc.1
  have HT : Hid (∀ W, Calls Try.prog 27 #[.string s] W fun e w' => ∃ g, e = .returned (.tuple #[.agg #[.func (.func 40) #[] #[], .slice (some ⟨g, 0, none⟩) 3 3], .bool true]) ∧ NumO w' W.heap.size w'.heap.size (.slice (some ⟨g, 0, none⟩) 3 3) [1, 3, 5] ∧ Kept W w') := fun W => t_cs s hs W
  clear hs
  have hst : ∀ (W : World) (a : Addr) (f : Nat), Sem.run Try.prog (store a (.func (.func f) #[] #[])) W = stored Try.prog W a (.func (.func f) #[] #[]) .plain := fun W a f => run_store Try.prog W a _ _ rfl
  have hst0 : ∀ (W : World) (a : Addr), Sem.run Try.prog (store a .nilFunc) W = stored Try.prog W a .nilFunc .plain := fun W a => run_store Try.prog W a _ _ rfl
  go_enter Try.func8, Try.ntmps8
  repeat (first | (go_at_call 27; refine (HT.out _).mono ?_; rintro e w2 ⟨g, rfl, -, k2⟩; dsimp only) | (go_at_call 28; refine (icounted _ _).mono ?_; rintro e w3 ⟨rfl, hw3⟩; rw [hw3, dc]; clear hw3 w3; dsimp only) | (go_at_call 40; refine (ics n h0' _).mono ?_; rintro e w3 ⟨rfl, hw3⟩; rw [hw3]; clear hw3 w3; dsimp only) | go_values | go_skip | go_guarded | go_step | go_upon)
  go_ret
  exact ⟨rfl, k2.alloc _⟩
set_option maxHeartbeats 4000000 in
theorem f_cs (s : ByteArray) (hs : s.toList = [99, 115]) (w : World) : Calls Try.prog 10 #[.string s] w fun e w' => ∃ v', e = .returned v' ∧ NumO w' w.heap.size w'.heap.size v' [1, 3, 5] ∧ Kept w w' := by
  have HT : Hid (∀ W, Calls Try.prog 27 #[.string s] W fun e w' => ∃ g, e = .returned (.tuple #[.agg #[.func (.func 40) #[] #[], .slice (some ⟨g, 0, none⟩) 3 3], .bool true]) ∧ NumO w' W.heap.size w'.heap.size (.slice (some ⟨g, 0, none⟩) 3 3) [1, 3, 5] ∧ Kept W w') := fun W => t_cs s hs W
  clear hs
  have hst : ∀ (W : World) (a : Addr) (f : Nat), Sem.run Try.prog (store a (.func (.func f) #[] #[])) W = stored Try.prog W a (.func (.func f) #[] #[]) .plain := fun W a f => run_store Try.prog W a _ _ rfl
  have hst0 : ∀ (W : World) (a : Addr), Sem.run Try.prog (store a .nilFunc) W = stored Try.prog W a .nilFunc .plain := fun W a => run_store Try.prog W a _ _ rfl
  go_enter Try.func10, Try.ntmps10
  repeat (first | (go_at_call 27; refine (HT.out _).mono ?_; rintro e w2 ⟨g, rfl, o2, k2⟩; dsimp only) | go_values | go_skip | go_guarded | go_step | go_upon)
  go_ret
  exact ⟨_, rfl, NumO.low (o2.kept ((But.refl _ _ _).alloc _)), k2.alloc _⟩
set_option maxHeartbeats 4000000 in
theorem g_cs (s : ByteArray) (hs : s.toList = [99, 115]) (w : World) : Calls Try.prog 9 #[.string s] w fun e w' => ∃ v', e = .returned v' ∧ NumO w' w.heap.size w'.heap.size v' [1, 3, 5] ∧ Kept w w' := by
  have e_ar : (s.toList == [97, 114]) = false := by rw [hs]; decide
  have e_cs : (s.toList == [99, 115]) = true := by rw [hs]; decide
  have e_en : (s.toList == [101, 110]) = false := by rw [hs]; decide
  have e_fr : (s.toList == [102, 114]) = false := by rw [hs]; decide
  have e_ja : (s.toList == [106, 97]) = false := by rw [hs]; decide
  have e_pl : (s.toList == [112, 108]) = false := by rw [hs]; decide
  have e_ru : (s.toList == [114, 117]) = false := by rw [hs]; decide
  clear hs
  go_enter Try.func9, Try.ntmps9
  repeat (first | go_values | go_skip | go_guarded | go_step | go_upon)
  go_ret
  exact ⟨_, rfl, num_lit3 _ _ _ 1 3 5 (by simp) (by simp), (But.refl _ _ _).alloc _⟩

set_option maxHeartbeats 4000000 in
theorem t_en (s : ByteArray) (hs : s.toList = [101, 110]) (w : World) : Calls Try.prog 27 #[.string s] w fun e w' => ∃ g, e = .returned (.tuple #[.agg #[.func (.func 41) #[] #[], .slice (some ⟨g, 0, none⟩) 2 2], .bool true]) ∧ NumO w' w.heap.size w'.heap.size (.slice (some ⟨g, 0, none⟩) 2 2) [1, 5] ∧ Kept w w' := by
  have e_ar : (s.toList == [97, 114]) = false := by rw [hs]; decide
  have e_cs : (s.toList == [99, 115]) = false := by rw [hs]; decide
  have e_en : (s.toList == [101, 110]) = true := by rw [hs]; decide
  have e_fr : (s.toList == [102, 114]) = false := by rw [hs]; decide
  have e_ja : (s.toList == [106, 97]) = false := by rw [hs]; decide
  have e_pl : (s.toList == [112, 108]) = false := by rw [hs]; decide
  have e_ru : (s.toList == [114, 117]) = false := by rw [hs]; decide
  clear hs
  have hst : ∀ (W : World) (a : Addr) (f : Nat), Sem.run Try.prog (store a (.func (.func f) #[] #[])) W = stored Try.prog W a (.func (.func f) #[] #[]) .plain := fun W a f => run_store Try.prog W a _ _ rfl
  have hst0 : ∀ (W : World) (a : Addr), Sem.run Try.prog (store a .nilFunc) W = stored Try.prog W a .nilFunc .plain := fun W a => run_store Try.prog W a _ _ rfl
  go_enter Try.func27, Try.ntmps27
  repeat (first | go_values | go_skip | go_guarded | go_step | go_upon)
  refine bodyPost_ret (v := .tuple #[.agg #[.func (.func 41) #[] #[], .slice (some ⟨w.heap.size + 1, 0, none⟩) 2 2], .bool true]) (by simp [results, Try.results27, go_sem]) rfl ?_
  exact ⟨_, rfl, num_lit2 _ _ _ 1 5 (by simp) (by simp), ((But.refl _ _ _).alloc _).alloc _⟩
set_option maxHeartbeats 4000000 in
theorem p_en (s : ByteArray) (hs : s.toList = [101, 110]) (n : Int) (hc : 0 ≤ n ∧ n ≤ 1000000000) (w : World) : Calls Try.prog 8 #[.string s, .int .i64 n] w fun e w' => e = .returned (.int .i64 (plur_en n)) ∧ Kept w w' := by
  have dc : decide (0 ≤ n ∧ n ≤ 1000000000) = true := decide_eq_true hc
  have h0' := hc.1
  have HT : Hid (∀ W, Calls Try.prog 27 #[.string s] W fun e w' => ∃ g, e = .returned (.tuple #[.agg #[.func (.func 41) #[] #[], .slice (some ⟨g, 0, none⟩) 2 2], .bool true]) ∧ NumO w' W.heap.size w'.heap.size (.slice (some ⟨g, 0, none⟩) 2 2) [1, 5] ∧ Kept W w') := fun W => t_en s hs W
  clear hs
  have hst : ∀ (W : World) (a : Addr) (f : Nat), Sem.run Try.prog (store a (.func (.func f) #[] #[])) W = stored Try.prog W a (.func (.func f) #[] #[]) .plain := fun W a f => run_store Try.prog W a _ _ rfl
  have hst0 : ∀ (W : World) (a : Addr), Sem.run Try.prog (store a .nilFunc) W = stored Try.prog W a .nilFunc .plain := fun W a => run_store Try.prog W a _ _ rfl
  go_enter Try.func8, Try.ntmps8
  repeat (first | (go_at_call 27; refine (HT.out _).mono ?_; rintro e w2 ⟨g, rfl, -, k2⟩; dsimp only) | (go_at_call 28; refine (icounted _ _).mono ?_; rintro e w3 ⟨rfl, hw3⟩; rw [hw3, dc]; clear hw3 w3; dsimp only) | (go_at_call 41; refine (ien n h0' _).mono ?_; rintro e w3 ⟨rfl, hw3⟩; rw [hw3]; clear hw3 w3; dsimp only) | go_values | go_skip | go_guarded | go_step | go_upon)
  go_ret
  exact ⟨rfl, k2.alloc _⟩
set_option maxHeartbeats 4000000 in
theorem f_en (s : ByteArray) (hs : s.toList = [101, 110]) (w : World) : Calls Try.prog 10 #[.string s] w fun e w' => ∃ v', e = .returned v' ∧ NumO w' w.heap.size w'.heap.size v' [1, 5] ∧ Kept w w' := by
  have HT : Hid (∀ W, Calls Try.prog 27 #[.string s] W fun e w' => ∃ g, e = .returned (.tuple #[.agg #[.func (.func 41) #[] #[], .slice (some ⟨g, 0, none⟩) 2 2], .bool true]) ∧ NumO w' W.heap.size w'.heap.size (.slice (some ⟨g, 0, none⟩) 2 2) [1, 5] ∧ Kept W w') := fun W => t_en s hs W
  clear hs
  have hst : ∀ (W : World) (a : Addr) (f : Nat), Sem.run Try.prog (store a (.func (.func f) #[] #[])) W = stored Try.prog W a (.func (.func f) #[] #[]) .plain := fun W a f => run_store Try.prog W a _ _ rfl
  have hst0 : ∀ (W : World) (a : Addr), Sem.run Try.prog (store a .nilFunc) W = stored Try.prog W a .nilFunc .plain := fun W a => run_store Try.prog W a _ _ rfl
  go_enter Try.func10, Try.ntmps10
  repeat (first | (go_at_call 27; refine (HT.out _).mono ?_; rintro e w2 ⟨g, rfl, o2, k2⟩; dsimp only) | go_values | go_skip | go_guarded | go_step | go_upon)
  go_ret
  exact ⟨_, rfl, NumO.low (o2.kept ((But.refl _ _ _).alloc _)), k2.alloc _⟩
set_option maxHeartbeats 4000000 in
theorem g_en (s : ByteArray) (hs : s.toList = [101, 110]) (w : World) : Calls Try.prog 9 #[.string s] w fun e w' => ∃ v', e = .returned v' ∧ NumO w' w.heap.size w'.heap.size v' [1, 5] ∧ Kept w w' := by
  have e_ar : (s.toList == [97, 114]) = false := by rw [hs]; decide
  have e_cs : (s.toList == [99, 115]) = false := by rw [hs]; decide
  have e_en : (s.toList == [101, 110]) = true := by rw [hs]; decide
  have e_fr : (s.toList == [102, 114]) = false := by rw [hs]; decide
  have e_ja : (s.toList == [106, 97]) = false := by rw [hs]; decide
  have e_pl : (s.toList == [112, 108]) = false := by rw [hs]; decide
  have e_ru : (s.toList == [114, 117]) = false := by rw [hs]; decide
  clear hs
  go_enter Try.func9, Try.ntmps9
  repeat (first | go_values | go_skip | go_guarded | go_step | go_upon)
  go_ret
  exact ⟨_, rfl, num_lit2 _ _ _ 1 5 (by simp) (by simp), (But.refl _ _ _).alloc _⟩

set_option maxHeartbeats 4000000 in
theorem t_fr (s : ByteArray) (hs : s.toList = [102, 114]) (w : World) : Calls Try.prog 27 #[.string s] w fun e w' => ∃ g, e = .returned (.tuple #[.agg #[.func (.func 42) #[] #[], .slice (some ⟨g, 0, none⟩) 2 2], .bool true]) ∧ NumO w' w.heap.size w'.heap.size (.slice (some ⟨g, 0, none⟩) 2 2) [1, 5] ∧ Kept w w' := by
  have e_ar : (s.toList == [97, 114]) = false := by rw [hs]; decide
  have e_cs : (s.toList == [99, 115]) = false := by rw [hs]; decide
  have e_en : (s.toList == [101, 110]) = false := by rw [hs]; decide
  have e_fr : (s.toList == [102, 114]) = true := by rw [hs]; decide
  have e_ja : (s.toList == [106, 97]) = false := by rw [hs]; decide
  have e_pl : (s.toList == [112, 108]) = false := by rw [hs]; decide
  have e_ru : (s.toList == [114, 117]) = false := by rw [hs]; decide
  clear hs
  have hst : ∀ (W : World) (a : Addr) (f : Nat), Sem.run Try.prog (store a (.func (.func f) #[] #[])) W = stored Try.prog W a (.func (.func f) #[] #[]) .plain := fun W a f => run_store Try.prog W a _ _ rfl
  have hst0 : ∀ (W : World) (a : Addr), Sem.run Try.prog (store a .nilFunc) W = stored Try.prog W a .nilFunc .plain := fun W a => run_store Try.prog W a _ _ rfl
  go_enter Try.func27, Try.ntmps27
  repeat (first | go_values | go_skip | go_guarded | go_step | go_upon)
  refine bodyPost_ret (v := .tuple #[.agg #[.func (.func 42) #[] #[], .slice (some ⟨w.heap.size + 1, 0, none⟩) 2 2], .bool true]) (by simp [results, Try.results27, go_sem]) rfl ?_
  exact ⟨_, rfl, num_lit2 _ _ _ 1 5 (by simp) (by simp), ((But.refl _ _ _).alloc _).alloc _⟩
set_option maxHeartbeats 4000000 in
theorem p_fr (s : ByteArray) (hs : s.toList = [102, 114]) (n : Int) (hc : 0 ≤ n ∧ n ≤ 1000000000) (w : World) : Calls Try.prog 8 #[.string s, .int .i64 n] w fun e w' => e = .returned (.int .i64 (plur_fr n)) ∧ Kept w w' := by
  have dc : decide (0 ≤ n ∧ n ≤ 1000000000) = true := decide_eq_true hc
  have h0' := hc.1
  have HT : Hid (∀ W, Calls Try.prog 27 #[.string s] W fun e w' => ∃ g, e = .returned (.tuple #[.agg #[.func (.func 42) #[] #[], .slice (some ⟨g, 0, none⟩) 2 2], .bool true]) ∧ NumO w' W.heap.size w'.heap.size (.slice (some ⟨g, 0, none⟩) 2 2) [1, 5] ∧ Kept W w') := fun W => t_fr s hs W
  clear hs
  have hst : ∀ (W : World) (a : Addr) (f : Nat), Sem.run Try.prog (store a (.func (.func f) #[] #[])) W = stored Try.prog W a (.func (.func f) #[] #[]) .plain := fun W a f => run_store Try.prog W a _ _ rfl
  have hst0 : ∀ (W : World) (a : Addr), Sem.run Try.prog (store a .nilFunc) W = stored Try.prog W a .nilFunc .plain := fun W a => run_store Try.prog W a _ _ rfl
  go_enter Try.func8, Try.ntmps8
  repeat (first | (go_at_call 27; refine (HT.out _).mono ?_; rintro e w2 ⟨g, rfl, -, k2⟩; dsimp only) | (go_at_call 28; refine (icounted _ _).mono ?_; rintro e w3 ⟨rfl, hw3⟩; rw [hw3, dc]; clear hw3 w3; dsimp only) | (go_at_call 42; refine (ifr n h0' _).mono ?_; rintro e w3 ⟨rfl, hw3⟩; rw [hw3]; clear hw3 w3; dsimp only) | go_values | go_skip | go_guarded | go_step | go_upon)
  go_ret
  exact ⟨rfl, k2.alloc _⟩
set_option maxHeartbeats 4000000 in
theorem f_fr (s : ByteArray) (hs : s.toList = [102, 114]) (w : World) : Calls Try.prog 10 #[.string s] w fun e w' => ∃ v', e = .returned v' ∧ NumO w' w.heap.size w'.heap.size v' [1, 5] ∧ Kept w w' := by
  have HT : Hid (∀ W, Calls Try.prog 27 #[.string s] W fun e w' => ∃ g, e = .returned (.tuple #[.agg #[.func (.func 42) #[] #[], .slice (some ⟨g, 0, none⟩) 2 2], .bool true]) ∧ NumO w' W.heap.size w'.heap.size (.slice (some ⟨g, 0, none⟩) 2 2) [1, 5] ∧ Kept W w') := fun W => t_fr s hs W
  clear hs
  have hst : ∀ (W : World) (a : Addr) (f : Nat), Sem.run Try.prog (store a (.func (.func f) #[] #[])) W = stored Try.prog W a (.func (.func f) #[] #[]) .plain := fun W a f => run_store Try.prog W a _ _ rfl
  have hst0 : ∀ (W : World) (a : Addr), Sem.run Try.prog (store a .nilFunc) W = stored Try.prog W a .nilFunc .plain := fun W a => run_store Try.prog W a _ _ rfl
  go_enter Try.func10, Try.ntmps10
  repeat (first | (go_at_call 27; refine (HT.out _).mono ?_; rintro e w2 ⟨g, rfl, o2, k2⟩; dsimp only) | go_values | go_skip | go_guarded | go_step | go_upon)
  go_ret
  exact ⟨_, rfl, NumO.low (o2.kept ((But.refl _ _ _).alloc _)), k2.alloc _⟩
set_option maxHeartbeats 4000000 in
theorem g_fr (s : ByteArray) (hs : s.toList = [102, 114]) (w : World) : Calls Try.prog 9 #[.string s] w fun e w' => ∃ v', e = .returned v' ∧ NumO w' w.heap.size w'.heap.size v' [1, 5] ∧ Kept w w' := by
  have e_ar : (s.toList == [97, 114]) = false := by rw [hs]; decide
  have e_cs : (s.toList == [99, 115]) = false := by rw [hs]; decide
  have e_en : (s.toList == [101, 110]) = false := by rw [hs]; decide
  have e_fr : (s.toList == [102, 114]) = true := by rw [hs]; decide
  have e_ja : (s.toList == [106, 97]) = false := by rw [hs]; decide
  have e_pl : (s.toList == [112, 108]) = false := by rw [hs]; decide
  have e_ru : (s.toList == [114, 117]) = false := by rw [hs]; decide
  clear hs
  go_enter Try.func9, Try.ntmps9
  repeat (first | go_values | go_skip | go_guarded | go_step | go_upon)
  go_ret
  exact ⟨_, rfl, num_lit2 _ _ _ 1 5 (by simp) (by simp), (But.refl _ _ _).alloc _⟩

set_option maxHeartbeats 4000000 in
theorem t_ja (s : ByteArray) (hs : s.toList = [106, 97]) (w : World) : Calls Try.prog 27 #[.string s] w fun e w' => ∃ g, e = .returned (.tuple #[.agg #[.func (.func 43) #[] #[], .slice (some ⟨g, 0, none⟩) 1 1], .bool true]) ∧ NumO w' w.heap.size w'.heap.size (.slice (some ⟨g, 0, none⟩) 1 1) [5] ∧ Kept w w' := by
  have e_ar : (s.toList == [97, 114]) = false := by rw [hs]; decide
  have e_cs : (s.toList == [99, 115]) = false := by rw [hs]; decide
  have e_en : (s.toList == [101, 110]) = false := by rw [hs]; decide
  have e_fr : (s.toList == [102, 114]) = false := by rw [hs]; decide
  have e_ja : (s.toList == [106, 97]) = true := by rw [hs]; decide
  have e_pl : (s.toList == [112, 108]) = false := by rw [hs]; decide
  have e_ru : (s.toList == [114, 117]) = false := by rw [hs]; decide
  clear hs
  have hst : ∀ (W : World) (a : Addr) (f : Nat), Sem.run Try.prog (store a (.func (.func f) #[] #[])) W = stored Try.prog W a (.func (.func f) #[] #[]) .plain := fun W a f => run_store Try.prog W a _ _ rfl
  have hst0 : ∀ (W : World) (a : Addr), Sem.run Try.prog (store a .nilFunc) W = stored Try.prog W a .nilFunc .plain := fun W a => run_store Try.prog W a _ _ rfl
  go_enter Try.func27, Try.ntmps27
  repeat (first | go_values | go_skip | go_guarded | go_step | go_upon)
  refine bodyPost_ret (v := .tuple #[.agg #[.func (.func 43) #[] #[], .slice (some ⟨w.heap.size + 1, 0, none⟩) 1 1], .bool true]) (by simp [results, Try.results27, go_sem]) rfl ?_
  exact ⟨_, rfl, num_lit1 _ _ _ 5 (by simp) (by simp), ((But.refl _ _ _).alloc _).alloc _⟩
set_option maxHeartbeats 4000000 in
theorem p_ja (s : ByteArray) (hs : s.toList = [106, 97]) (n : Int) (hc : 0 ≤ n ∧ n ≤ 1000000000) (w : World) : Calls Try.prog 8 #[.string s, .int .i64 n] w fun e w' => e = .returned (.int .i64 (plur_ja n)) ∧ Kept w w' := by
  have dc : decide (0 ≤ n ∧ n ≤ 1000000000) = true := decide_eq_true hc
  have h0' := hc.1
  have HT : Hid (∀ W, Calls Try.prog 27 #[.string s] W fun e w' => ∃ g, e = .returned (.tuple #[.agg #[.func (.func 43) #[] #[], .slice (some ⟨g, 0, none⟩) 1 1], .bool true]) ∧ NumO w' W.heap.size w'.heap.size (.slice (some ⟨g, 0, none⟩) 1 1) [5] ∧ Kept W w') := fun W => t_ja s hs W
  clear hs
  have hst : ∀ (W : World) (a : Addr) (f : Nat), Sem.run Try.prog (store a (.func (.func f) #[] #[])) W = stored Try.prog W a (.func (.func f) #[] #[]) .plain := fun W a f => run_store Try.prog W a _ _ rfl
  have hst0 : ∀ (W : World) (a : Addr), Sem.run Try.prog (store a .nilFunc) W = stored Try.prog W a .nilFunc .plain := fun W a => run_store Try.prog W a _ _ rfl
  go_enter Try.func8, Try.ntmps8
  repeat (first | (go_at_call 27; refine (HT.out _).mono ?_; rintro e w2 ⟨g, rfl, -, k2⟩; dsimp only) | (go_at_call 28; refine (icounted _ _).mono ?_; rintro e w3 ⟨rfl, hw3⟩; rw [hw3, dc]; clear hw3 w3; dsimp only) | (go_at_call 43; refine (ija n h0' _).mono ?_; rintro e w3 ⟨rfl, hw3⟩; rw [hw3]; clear hw3 w3; dsimp only) | go_values | go_skip | go_guarded | go_step | go_upon)
  go_ret
  exact ⟨rfl, k2.alloc _⟩
set_option maxHeartbeats 4000000 in
theorem f_ja (s : ByteArray) (hs : s.toList = [106, 97]) (w : World) : Calls Try.prog 10 #[.string s] w fun e w' => ∃ v', e = .returned v' ∧ NumO w' w.heap.size w'.heap.size v' [5] ∧ Kept w w' := by
  have HT : Hid (∀ W, Calls Try.prog 27 #[.string s] W fun e w' => ∃ g, e = .returned (.tuple #[.agg #[.func (.func 43) #[] #[], .slice (some ⟨g, 0, none⟩) 1 1], .bool true]) ∧ NumO w' W.heap.size w'.heap.size (.slice (some ⟨g, 0, none⟩) 1 1) [5] ∧ Kept W w') := fun W => t_ja s hs W
  clear hs
  have hst : ∀ (W : World) (a : Addr) (f : Nat), Sem.run Try.prog (store a (.func (.func f) #[] #[])) W = stored Try.prog W a (.func (.func f) #[] #[]) .plain := fun W a f => run_store Try.prog W a _ _ rfl
  have hst0 : ∀ (W : World) (a : Addr), Sem.run Try.prog (store a .nilFunc) W = stored Try.prog W a .nilFunc .plain := fun W a => run_store Try.prog W a _ _ rfl
  go_enter Try.func10, Try.ntmps10
  repeat (first | (go_at_call 27; refine (HT.out _).mono ?_; rintro e w2 ⟨g, rfl, o2, k2⟩; dsimp only) | go_values | go_skip | go_guarded | go_step | go_upon)
  go_ret
  exact ⟨_, rfl, NumO.low (o2.kept ((But.refl _ _ _).alloc _)), k2.alloc _⟩
set_option maxHeartbeats 4000000 in
theorem g_ja (s : ByteArray) (hs : s.toList = [106, 97]) (w : World) : Calls Try.prog 9 #[.string s] w fun e w' => ∃ v', e = .returned v' ∧ NumO w' w.heap.size w'.heap.size v' [5] ∧ Kept w w' := by
  have e_ar : (s.toList == [97, 114]) = false := by rw [hs]; decide
  have e_cs : (s.toList == [99, 115]) = false := by rw [hs]; decide
  have e_en : (s.toList == [101, 110]) = false := by rw [hs]; decide
  have e_fr : (s.toList == [102, 114]) = false := by rw [hs]; decide
  have e_ja : (s.toList == [106, 97]) = true := by rw [hs]; decide
  have e_pl : (s.toList == [112, 108]) = false := by rw [hs]; decide
  have e_ru : (s.toList == [114, 117]) = false := by rw [hs]; decide
  clear hs
  go_enter Try.func9, Try.ntmps9
  repeat (first | go_values | go_skip | go_guarded | go_step | go_upon)
  go_ret
  exact ⟨_, rfl, num_lit1 _ _ _ 5 (by simp) (by simp), (But.refl _ _ _).alloc _⟩

set_option maxHeartbeats 4000000 in
theorem t_pl (s : ByteArray) (hs : s.toList = [112, 108]) (w : World) : Calls Try.prog 27 #[.string s] w fun e w' => ∃ g, e = .returned (.tuple #[.agg #[.func (.func 44) #[] #[], .slice (some ⟨g, 0, none⟩) 3 3], .bool true]) ∧ NumO w' w.heap.size w'.heap.size (.slice (some ⟨g, 0, none⟩) 3 3) [1, 3, 4] ∧ Kept w w' := by
  have e_ar : (s.toList == [97, 114]) = false := by rw [hs]; decide
  have e_cs : (s.toList == [99, 115]) = false := by rw [hs]; decide
  have e_en : (s.toList == [101, 110]) = false := by rw [hs]; decide
  have e_fr : (s.toList == [102, 114]) = false := by rw [hs]; decide
  have e_ja : (s.toList == [106, 97]) = false := by rw [hs]; decide
  have e_pl : (s.toList == [112, 108]) = true := by rw [hs]; decide
  have e_ru : (s.toList == [114, 117]) = false := by rw [hs]; decide
  clear hs
  have hst : ∀ (W : World) (a : Addr) (f : Nat), Sem.run Try.prog (store a (.func (.func f) #[] #[])) W = stored Try.prog W a (.func (.func f) #[] #[]) .plain := fun W a f => run_store Try.prog W a _ _ rfl
  have hst0 : ∀ (W : World) (a : Addr), Sem.run Try.prog (store a .nilFunc) W = stored Try.prog W a .nilFunc .plain := fun W a => run_store Try.prog W a _ _ rfl
  go_enter Try.func27, Try.ntmps27
  repeat (first | go_values | go_skip | go_guarded | go_step | go_upon)
  refine bodyPost_ret (v := .tuple #[.agg #[.func (.func 44) #[] #[], .slice (some ⟨w.heap.size + 1, 0, none⟩) 3 3], .bool true]) (by simp [results, Try.results27, go_sem]) rfl ?_
  exact ⟨_, rfl, num_lit3 _ _ _ 1 3 4 (by simp) (by simp), ((But.refl _ _ _).alloc _).alloc _⟩
set_option maxHeartbeats 4000000 in
theorem p_pl (s : ByteArray) (hs : s.toList = [112, 108]) (n : Int) (hc : 0 ≤ n ∧ n ≤ 1000000000) (w : World) : Calls Try.prog 8 #[.string s, .int .i64 n] w fun e w' => e = .returned (.int .i64 (plur_pl n)) ∧ Kept w w' := by
  have dc : decide (0 ≤ n ∧ n ≤ 1000000000) = true := decide_eq_true hc
  have h0' := hc.1
  have HT : Hid (∀ W, Calls Try.prog 27 #[.string s] W fun e w' => ∃ g, e = .returned (.tuple #[.agg #[.func (.func 44) #[] #[], .slice (some ⟨g, 0, none⟩) 3 3], .bool true]) ∧ NumO w' W.heap.size w'.heap.size (.slice (some ⟨g, 0, none⟩) 3 3) [1, 3, 4] ∧ Kept W w') := fun W => t_pl s hs W
  clear hs
  have hst : ∀ (W : World) (a : Addr) (f : Nat), Sem.run Try.prog (store a (.func (.func f) #[] #[])) W = stored Try.prog W a (.func (.func f) #[] #[]) .plain := fun W a f => run_store Try.prog W a _ _ rfl
  have hst0 : ∀ (W : World) (a : Addr), Sem.run Try.prog (store a .nilFunc) W = stored Try.prog W a .nilFunc .plain := fun W a => run_store Try.prog W a _ _ rfl
  go_enter Try.func8, Try.ntmps8
  repeat (first | (go_at_call 27; refine (HT.out _).mono ?_; rintro e w2 ⟨g, rfl, -, k2⟩; dsimp only) | (go_at_call 28; refine (icounted _ _).mono ?_; rintro e w3 ⟨rfl, hw3⟩; rw [hw3, dc]; clear hw3 w3; dsimp only) | (go_at_call 44; refine (ipl n h0' _).mono ?_; rintro e w3 ⟨rfl, hw3⟩; rw [hw3]; clear hw3 w3; dsimp only) | go_values | go_skip | go_guarded | go_step | go_upon)
  go_ret
  exact ⟨rfl, k2.alloc _⟩
set_option maxHeartbeats 4000000 in
theorem f_pl (s : ByteArray) (hs : s.toList = [112, 108]) (w : World) : Calls Try.prog 10 #[.string s] w fun e w' => ∃ v', e = .returned v' ∧ NumO w' w.heap.size w'.heap.size v' [1, 3, 4] ∧ Kept w w' := by
  have HT : Hid (∀ W, Calls Try.prog 27 #[.string s] W fun e w' => ∃ g, e = .returned (.tuple #[.agg #[.func (.func 44) #[] #[], .slice (some ⟨g, 0, none⟩) 3 3], .bool true]) ∧ NumO w' W.heap.size w'.heap.size (.slice (some ⟨g, 0, none⟩) 3 3) [1, 3, 4] ∧ Kept W w') := fun W => t_pl s hs W
  clear hs
  have hst : ∀ (W : World) (a : Addr) (f : Nat), Sem.run Try.prog (store a (.func (.func f) #[] #[])) W = stored Try.prog W a (.func (.func f) #[] #[]) .plain := fun W a f => run_store Try.prog W a _ _ rfl
  have hst0 : ∀ (W : World) (a : Addr), Sem.run Try.prog (store a .nilFunc) W = stored Try.prog W a .nilFunc .plain := fun W a => run_store Try.prog W a _ _ rfl
  go_enter Try.func10, Try.ntmps10
  repeat (first | (go_at_call 27; refine (HT.out _).mono ?_; rintro e w2 ⟨g, rfl, o2, k2⟩; dsimp only) | go_values | go_skip | go_guarded | go_step | go_upon)
  go_ret
  exact ⟨_, rfl, NumO.low (o2.kept ((But.refl _ _ _).alloc _)), k2.alloc _⟩
set_option maxHeartbeats 4000000 in
theorem g_pl (s : ByteArray) (hs : s.toList = [112, 108]) (w : World) : Calls Try.prog 9 #[.string s] w fun e w' => ∃ v', e = .returned v' ∧ NumO w' w.heap.size w'.heap.size v' [1, 3, 4] ∧ Kept w w' := by
  have e_ar : (s.toList == [97, 114]) = false := by rw [hs]; decide
  have e_cs : (s.toList == [99, 115]) = false := by rw [hs]; decide
  have e_en : (s.toList == [101, 110]) = false := by rw [hs]; decide
  have e_fr : (s.toList == [102, 114]) = false := by rw [hs]; decide
  have e_ja : (s.toList == [106, 97]) = false := by rw [hs]; decide
  have e_pl : (s.toList == [112, 108]) = true := by rw [hs]; decide
  have e_ru : (s.toList == [114, 117]) = false := by rw [hs]; decide
  clear hs
  go_enter Try.func9, Try.ntmps9
  repeat (first | go_values | go_skip | go_guarded | go_step | go_upon)
  go_ret
  exact ⟨_, rfl, num_lit3 _ _ _ 1 3 4 (by simp) (by simp), (But.refl _ _ _).alloc _⟩

set_option maxHeartbeats 4000000 in
theorem t_ru (s : ByteArray) (hs : s.toList = [114, 117]) (w : World) : Calls Try.prog 27 #[.string s] w fun e w' => ∃ g, e = .returned (.tuple #[.agg #[.func (.func 45) #[] #[], .slice (some ⟨g, 0, none⟩) 3 3], .bool true]) ∧ NumO w' w.heap.size w'.heap.size (.slice (some ⟨g, 0, none⟩) 3 3) [1, 3, 4] ∧ Kept w w' := by
  have e_ar : (s.toList == [97, 114]) = false := by rw [hs]; decide
  have e_cs : (s.toList == [99, 115]) = false := by rw [hs]; decide
  have e_en : (s.toList == [101, 110]) = false := by rw [hs]; decide
  have e_fr : (s.toList == [102, 114]) = false := by rw [hs]; decide
  have e_ja : (s.toList == [106, 97]) = false := by rw [hs]; decide
  have e_pl : (s.toList == [112, 108]) = false := by rw [hs]; decide
  have e_ru : (s.toList == [114, 117]) = true := by rw [hs]; decide
  clear hs
  have hst : ∀ (W : World) (a : Addr) (f : Nat), Sem.run Try.prog (store a (.func (.func f) #[] #[])) W = stored Try.prog W a (.func (.func f) #[] #[]) .plain := fun W a f => run_store Try.prog W a _ _ rfl
  have hst0 : ∀ (W : World) (a : Addr), Sem.run Try.prog (store a .nilFunc) W = stored Try.prog W a .nilFunc .plain := fun W a => run_store Try.prog W a _ _ rfl
  go_enter Try.func27, Try.ntmps27
  repeat (first | go_values | go_skip | go_guarded | go_step | go_upon)
  refine bodyPost_ret (v := .tuple #[.agg #[.func (.func 45) #[] #[], .slice (some ⟨w.heap.size + 1, 0, none⟩) 3 3], .bool true]) (by simp [results, Try.results27, go_sem]) rfl ?_
  exact ⟨_, rfl, num_lit3 _ _ _ 1 3 4 (by simp) (by simp), ((But.refl _ _ _).alloc _).alloc _⟩
set_option maxHeartbeats 4000000 in
theorem p_ru (s : ByteArray) (hs : s.toList = [114, 117]) (n : Int) (hc : 0 ≤ n ∧ n ≤ 1000000000) (w : World) : Calls Try.prog 8 #[.string s, .int .i64 n] w fun e w' => e = .returned (.int .i64 (plur_ru n)) ∧ Kept w w' := by
  have dc : decide (0 ≤ n ∧ n ≤ 1000000000) = true := decide_eq_true hc
  have h0' := hc.1
  have HT : Hid (∀ W, Calls Try.prog 27 #[.string s] W fun e w' => ∃ g, e = .returned (.tuple #[.agg #[.func (.func 45) #[] #[], .slice (some ⟨g, 0, none⟩) 3 3], .bool true]) ∧ NumO w' W.heap.size w'.heap.size (.slice (some ⟨g, 0, none⟩) 3 3) [1, 3, 4] ∧ Kept W w') := fun W => t_ru s hs W
  clear hs
  have hst : ∀ (W : World) (a : Addr) (f : Nat), Sem.run Try.prog (store a (.func (.func f) #[] #[])) W = stored Try.prog W a (.func (.func f) #[] #[]) .plain := fun W a f => run_store Try.prog W a _ _ rfl
  have hst0 : ∀ (W : World) (a : Addr), Sem.run Try.prog (store a .nilFunc) W = stored Try.prog W a .nilFunc .plain := fun W a => run_store Try.prog W a _ _ rfl
  go_enter Try.func8, Try.ntmps8
  repeat (first | (go_at_call 27; refine (HT.out _).mono ?_; rintro e w2 ⟨g, rfl, -, k2⟩; dsimp only) | (go_at_call 28; refine (icounted _ _).mono ?_; rintro e w3 ⟨rfl, hw3⟩; rw [hw3, dc]; clear hw3 w3; dsimp only) | (go_at_call 45; refine (iru n h0' _).mono ?_; rintro e w3 ⟨rfl, hw3⟩; rw [hw3]; clear hw3 w3; dsimp only) | go_values | go_skip | go_guarded | go_step | go_upon)
  go_ret
  exact ⟨rfl, k2.alloc _⟩
set_option maxHeartbeats 4000000 in
theorem f_ru (s : ByteArray) (hs : s.toList = [114, 117]) (w : World) : Calls Try.prog 10 #[.string s] w fun e w' => ∃ v', e = .returned v' ∧ NumO w' w.heap.size w'.heap.size v' [1, 3, 4] ∧ Kept w w' := by
  have HT : Hid (∀ W, Calls Try.prog 27 #[.string s] W fun e w' => ∃ g, e = .returned (.tuple #[.agg #[.func (.func 45) #[] #[], .slice (some ⟨g, 0, none⟩) 3 3], .bool true]) ∧ NumO w' W.heap.size w'.heap.size (.slice (some ⟨g, 0, none⟩) 3 3) [1, 3, 4] ∧ Kept W w') := fun W => t_ru s hs W
  clear hs
  have hst : ∀ (W : World) (a : Addr) (f : Nat), Sem.run Try.prog (store a (.func (.func f) #[] #[])) W = stored Try.prog W a (.func (.func f) #[] #[]) .plain := fun W a f => run_store Try.prog W a _ _ rfl
  have hst0 : ∀ (W : World) (a : Addr), Sem.run Try.prog (store a .nilFunc) W = stored Try.prog W a .nilFunc .plain := fun W a => run_store Try.prog W a _ _ rfl
  go_enter Try.func10, Try.ntmps10
  repeat (first | (go_at_call 27; refine (HT.out _).mono ?_; rintro e w2 ⟨g, rfl, o2, k2⟩; dsimp only) | go_values | go_skip | go_guarded | go_step | go_upon)
  go_ret
  exact ⟨_, rfl, NumO.low (o2.kept ((But.refl _ _ _).alloc _)), k2.alloc _⟩
set_option maxHeartbeats 4000000 in
theorem g_ru (s : ByteArray) (hs : s.toList = [114, 117]) (w : World) : Calls Try.prog 9 #[.string s] w fun e w' => ∃ v', e = .returned v' ∧ NumO w' w.heap.size w'.heap.size v' [1, 3, 4] ∧ Kept w w' := by
  have e_ar : (s.toList == [97, 114]) = false := by rw [hs]; decide
  have e_cs : (s.toList == [99, 115]) = false := by rw [hs]; decide
  have e_en : (s.toList == [101, 110]) = false := by rw [hs]; decide
  have e_fr : (s.toList == [102, 114]) = false := by rw [hs]; decide
  have e_ja : (s.toList == [106, 97]) = false := by rw [hs]; decide
  have e_pl : (s.toList == [112, 108]) = false := by rw [hs]; decide
  have e_ru : (s.toList == [114, 117]) = true := by rw [hs]; decide
  clear hs
  go_enter Try.func9, Try.ntmps9
  repeat (first | go_values | go_skip | go_guarded | go_step | go_upon)
  go_ret
  exact ⟨_, rfl, num_lit3 _ _ _ 1 3 4 (by simp) (by simp), (But.refl _ _ _).alloc _⟩

theorem nil_num (w : World) (lo hi : Nat) : NumO w lo hi (.slice none 0 0) [] := ⟨World.ownsRow_nil _ _ _ _, fun g hg => by cases hg⟩
set_option maxHeartbeats 4000000 in
theorem t_no (s : ByteArray) (h_ar : s.toList ≠ [97, 114]) (h_cs : s.toList ≠ [99, 115]) (h_en : s.toList ≠ [101, 110]) (h_fr : s.toList ≠ [102, 114]) (h_ja : s.toList ≠ [106, 97]) (h_pl : s.toList ≠ [112, 108]) (h_ru : s.toList ≠ [114, 117]) (w : World) : Calls Try.prog 27 #[.string s] w fun e w' => e = .returned (.tuple #[.agg #[.nilFunc, .slice none 0 0], .bool false]) ∧ Kept w w' := by
  have e_ar : (s.toList == [97, 114]) = false := by simpa using h_ar
  have e_cs : (s.toList == [99, 115]) = false := by simpa using h_cs
  have e_en : (s.toList == [101, 110]) = false := by simpa using h_en
  have e_fr : (s.toList == [102, 114]) = false := by simpa using h_fr
  have e_ja : (s.toList == [106, 97]) = false := by simpa using h_ja
  have e_pl : (s.toList == [112, 108]) = false := by simpa using h_pl
  have e_ru : (s.toList == [114, 117]) = false := by simpa using h_ru
  have hst : ∀ (W : World) (a : Addr) (f : Nat), Sem.run Try.prog (store a (.func (.func f) #[] #[])) W = stored Try.prog W a (.func (.func f) #[] #[]) .plain := fun W a f => run_store Try.prog W a _ _ rfl
  have hst0 : ∀ (W : World) (a : Addr), Sem.run Try.prog (store a .nilFunc) W = stored Try.prog W a .nilFunc .plain := fun W a => run_store Try.prog W a _ _ rfl
  go_enter Try.func27, Try.ntmps27
  repeat (first | go_values | go_skip | go_guarded | go_step | go_upon)
  refine bodyPost_ret (v := .tuple #[.agg #[.nilFunc, .slice none 0 0], .bool false]) (by simp [results, Try.results27, go_sem]) rfl ?_
  exact ⟨rfl, by first | exact (But.refl _ _ _).alloc _ | (simp; exact (But.refl _ _ _).alloc _)⟩
set_option maxHeartbeats 4000000 in
theorem p_no (s : ByteArray) (n : Int) (h_ar : s.toList ≠ [97, 114]) (h_cs : s.toList ≠ [99, 115]) (h_en : s.toList ≠ [101, 110]) (h_fr : s.toList ≠ [102, 114]) (h_ja : s.toList ≠ [106, 97]) (h_pl : s.toList ≠ [112, 108]) (h_ru : s.toList ≠ [114, 117]) (w : World) : Calls Try.prog 8 #[.string s, .int .i64 n] w fun e w' => e = .returned (.int .i64 0) ∧ Kept w w' := by
  have HT : Hid (∀ W, Calls Try.prog 27 #[.string s] W fun e w' => e = .returned (.tuple #[.agg #[.nilFunc, .slice none 0 0], .bool false]) ∧ Kept W w') := fun W => t_no s h_ar h_cs h_en h_fr h_ja h_pl h_ru W
  have hst : ∀ (W : World) (a : Addr) (f : Nat), Sem.run Try.prog (store a (.func (.func f) #[] #[])) W = stored Try.prog W a (.func (.func f) #[] #[]) .plain := fun W a f => run_store Try.prog W a _ _ rfl
  have hst0 : ∀ (W : World) (a : Addr), Sem.run Try.prog (store a .nilFunc) W = stored Try.prog W a .nilFunc .plain := fun W a => run_store Try.prog W a _ _ rfl
  go_enter Try.func8, Try.ntmps8
  repeat (first | (go_at_call 27; refine (HT.out _).mono ?_; rintro e w2 ⟨rfl, k2⟩; dsimp only) | go_values | go_skip | go_guarded | go_step | go_upon)
  go_ret
  exact ⟨rfl, k2.alloc _⟩
set_option maxHeartbeats 4000000 in
theorem f_no (s : ByteArray) (h_ar : s.toList ≠ [97, 114]) (h_cs : s.toList ≠ [99, 115]) (h_en : s.toList ≠ [101, 110]) (h_fr : s.toList ≠ [102, 114]) (h_ja : s.toList ≠ [106, 97]) (h_pl : s.toList ≠ [112, 108]) (h_ru : s.toList ≠ [114, 117]) (w : World) : Calls Try.prog 10 #[.string s] w fun e w' => ∃ v', e = .returned v' ∧ NumO w' w.heap.size w'.heap.size v' [] ∧ Kept w w' := by
  have HT : Hid (∀ W, Calls Try.prog 27 #[.string s] W fun e w' => e = .returned (.tuple #[.agg #[.nilFunc, .slice none 0 0], .bool false]) ∧ Kept W w') := fun W => t_no s h_ar h_cs h_en h_fr h_ja h_pl h_ru W
  have hst : ∀ (W : World) (a : Addr) (f : Nat), Sem.run Try.prog (store a (.func (.func f) #[] #[])) W = stored Try.prog W a (.func (.func f) #[] #[]) .plain := fun W a f => run_store Try.prog W a _ _ rfl
  have hst0 : ∀ (W : World) (a : Addr), Sem.run Try.prog (store a .nilFunc) W = stored Try.prog W a .nilFunc .plain := fun W a => run_store Try.prog W a _ _ rfl
  go_enter Try.func10, Try.ntmps10
  repeat (first | (go_at_call 27; refine (HT.out _).mono ?_; rintro e w2 ⟨rfl, k2⟩; dsimp only) | go_values | go_skip | go_guarded | go_step | go_upon)
  go_ret
  exact ⟨_, rfl, nil_num _ _ _, k2.alloc _⟩
set_option maxHeartbeats 4000000 in
theorem g_no (s : ByteArray) (h_ar : s.toList ≠ [97, 114]) (h_cs : s.toList ≠ [99, 115]) (h_en : s.toList ≠ [101, 110]) (h_fr : s.toList ≠ [102, 114]) (h_ja : s.toList ≠ [106, 97]) (h_pl : s.toList ≠ [112, 108]) (h_ru : s.toList ≠ [114, 117]) (w : World) : Calls Try.prog 9 #[.string s] w fun e w' => ∃ v', e = .returned v' ∧ NumO w' w.heap.size w'.heap.size v' [] ∧ Kept w w' := by
  have e_ar : (s.toList == [97, 114]) = false := by simpa using h_ar
  have e_cs : (s.toList == [99, 115]) = false := by simpa using h_cs
  have e_en : (s.toList == [101, 110]) = false := by simpa using h_en
  have e_fr : (s.toList == [102, 114]) = false := by simpa using h_fr
  have e_ja : (s.toList == [106, 97]) = false := by simpa using h_ja
  have e_pl : (s.toList == [112, 108]) = false := by simpa using h_pl
  have e_ru : (s.toList == [114, 117]) = false := by simpa using h_ru
  go_enter Try.func9, Try.ntmps9
  repeat (first | go_values | go_skip | go_guarded | go_step | go_upon)
  go_ret
  exact ⟨_, rfl, nil_num _ _ _, But.refl _ _ _⟩

set_option maxHeartbeats 4000000 in
theorem o_ar (s : ByteArray) (hs : s.toList = [97, 114]) (n : Int) (hc : ¬ (0 ≤ n ∧ n ≤ 1000000000)) (w : World) : Calls Try.prog 8 #[.string s, .int .i64 n] w fun e w' => e = .returned (.int .i64 0) ∧ Kept w w' := by
  have dc : decide (0 ≤ n ∧ n ≤ 1000000000) = false := decide_eq_false hc
  have HT : Hid (∀ W, Calls Try.prog 27 #[.string s] W fun e w' => ∃ g, e = .returned (.tuple #[.agg #[.func (.func 39) #[] #[], .slice (some ⟨g, 0, none⟩) 5 5], .bool true]) ∧ NumO w' W.heap.size w'.heap.size (.slice (some ⟨g, 0, none⟩) 5 5) [1, 2, 3, 4, 5] ∧ Kept W w') := fun W => t_ar s hs W
  clear hs hc
  have hst : ∀ (W : World) (a : Addr) (f : Nat), Sem.run Try.prog (store a (.func (.func f) #[] #[])) W = stored Try.prog W a (.func (.func f) #[] #[]) .plain := fun W a f => run_store Try.prog W a _ _ rfl
  have hst0 : ∀ (W : World) (a : Addr), Sem.run Try.prog (store a .nilFunc) W = stored Try.prog W a .nilFunc .plain := fun W a => run_store Try.prog W a _ _ rfl
  go_enter Try.func8, Try.ntmps8
  repeat (first | (go_at_call 27; refine (HT.out _).mono ?_; rintro e w2 ⟨g, rfl, -, k2⟩; dsimp only) | (go_at_call 28; refine (icounted _ _).mono ?_; rintro e w3 ⟨rfl, hw3⟩; rw [hw3, dc]; clear hw3 w3; dsimp only) | go_values | go_skip | go_guarded | go_step | go_upon)
  go_ret
  exact ⟨rfl, k2.alloc _⟩

set_option maxHeartbeats 4000000 in
theorem o_cs (s : ByteArray) (hs : s.toList = [99, 115]) (n : Int) (hc : ¬ (0 ≤ n ∧ n ≤ 1000000000)) (w : World) : Calls Try.prog 8 #[.string s, .int .i64 n] w fun e w' => e = .returned (.int .i64 0) ∧ Kept w w' := by
  have dc : decide (0 ≤ n ∧ n ≤ 1000000000) = false := decide_eq_false hc
  have HT : Hid (∀ W, Calls Try.prog 27 #[.string s] W fun e w' => ∃ g, e = .returned (.tuple #[.agg #[.func (.func 40) #[] #[], .slice (some ⟨g, 0, none⟩) 3 3], .bool true]) ∧ NumO w' W.heap.size w'.heap.size (.slice (some ⟨g, 0, none⟩) 3 3) [1, 3, 5] ∧ Kept W w') := fun W => t_cs s hs W
  clear hs hc
  have hst : ∀ (W : World) (a : Addr) (f : Nat), Sem.run Try.prog (store a (.func (.func f) #[] #[])) W = stored Try.prog W a (.func (.func f) #[] #[]) .plain := fun W a f => run_store Try.prog W a _ _ rfl
  have hst0 : ∀ (W : World) (a : Addr), Sem.run Try.prog (store a .nilFunc) W = stored Try.prog W a .nilFunc .plain := fun W a => run_store Try.prog W a _ _ rfl
  go_enter Try.func8, Try.ntmps8
  repeat (first | (go_at_call 27; refine (HT.out _).mono ?_; rintro e w2 ⟨g, rfl, -, k2⟩; dsimp only) | (go_at_call 28; refine (icounted _ _).mono ?_; rintro e w3 ⟨rfl, hw3⟩; rw [hw3, dc]; clear hw3 w3; dsimp only) | go_values | go_skip | go_guarded | go_step | go_upon)
  go_ret
  exact ⟨rfl, k2.alloc _⟩

set_option maxHeartbeats 4000000 in
theorem o_en (s : ByteArray) (hs : s.toList = [101, 110]) (n : Int) (hc : ¬ (0 ≤ n ∧ n ≤ 1000000000)) (w : World) : Calls Try.prog 8 #[.string s, .int .i64 n] w fun e w' => e = .returned (.int .i64 0) ∧ Kept w w' := by
  have dc : decide (0 ≤ n ∧ n ≤ 1000000000) = false := decide_eq_false hc
  have HT : Hid (∀ W, Calls Try.prog 27 #[.string s] W fun e w' => ∃ g, e = .returned (.tuple #[.agg #[.func (.func 41) #[] #[], .slice (some ⟨g, 0, none⟩) 2 2], .bool true]) ∧ NumO w' W.heap.size w'.heap.size (.slice (some ⟨g, 0, none⟩) 2 2) [1, 5] ∧ Kept W w') := fun W => t_en s hs W
  clear hs hc
  have hst : ∀ (W : World) (a : Addr) (f : Nat), Sem.run Try.prog (store a (.func (.func f) #[] #[])) W = stored Try.prog W a (.func (.func f) #[] #[]) .plain := fun W a f => run_store Try.prog W a _ _ rfl
  have hst0 : ∀ (W : World) (a : Addr), Sem.run Try.prog (store a .nilFunc) W = stored Try.prog W a .nilFunc .plain := fun W a => run_store Try.prog W a _ _ rfl
  go_enter Try.func8, Try.ntmps8
  repeat (first | (go_at_call 27; refine (HT.out _).mono ?_; rintro e w2 ⟨g, rfl, -, k2⟩; dsimp only) | (go_at_call 28; refine (icounted _ _).mono ?_; rintro e w3 ⟨rfl, hw3⟩; rw [hw3, dc]; clear hw3 w3; dsimp only) | go_values | go_skip | go_guarded | go_step | go_upon)
  go_ret
  exact ⟨rfl, k2.alloc _⟩

set_option maxHeartbeats 4000000 in
theorem o_fr (s : ByteArray) (hs : s.toList = [102, 114]) (n : Int) (hc : ¬ (0 ≤ n ∧ n ≤ 1000000000)) (w : World) : Calls Try.prog 8 #[.string s, .int .i64 n] w fun e w' => e = .returned (.int .i64 0) ∧ Kept w w' := by
  have dc : decide (0 ≤ n ∧ n ≤ 1000000000) = false := decide_eq_false hc
  have HT : Hid (∀ W, Calls Try.prog 27 #[.string s] W fun e w' => ∃ g, e = .returned (.tuple #[.agg #[.func (.func 42) #[] #[], .slice (some ⟨g, 0, none⟩) 2 2], .bool true]) ∧ NumO w' W.heap.size w'.heap.size (.slice (some ⟨g, 0, none⟩) 2 2) [1, 5] ∧ Kept W w') := fun W => t_fr s hs W
  clear hs hc
  have hst : ∀ (W : World) (a : Addr) (f : Nat), Sem.run Try.prog (store a (.func (.func f) #[] #[])) W = stored Try.prog W a (.func (.func f) #[] #[]) .plain := fun W a f => run_store Try.prog W a _ _ rfl
  have hst0 : ∀ (W : World) (a : Addr), Sem.run Try.prog (store a .nilFunc) W = stored Try.prog W a .nilFunc .plain := fun W a => run_store Try.prog W a _ _ rfl
  go_enter Try.func8, Try.ntmps8
  repeat (first | (go_at_call 27; refine (HT.out _).mono ?_; rintro e w2 ⟨g, rfl, -, k2⟩; dsimp only) | (go_at_call 28; refine (icounted _ _).mono ?_; rintro e w3 ⟨rfl, hw3⟩; rw [hw3, dc]; clear hw3 w3; dsimp only) | go_values | go_skip | go_guarded | go_step | go_upon)
  go_ret
  exact ⟨rfl, k2.alloc _⟩

set_option maxHeartbeats 4000000 in
theorem o_ja (s : ByteArray) (hs : s.toList = [106, 97]) (n : Int) (hc : ¬ (0 ≤ n ∧ n ≤ 1000000000)) (w : World) : Calls Try.prog 8 #[.string s, .int .i64 n] w fun e w' => e = .returned (.int .i64 0) ∧ Kept w w' := by
  have dc : decide (0 ≤ n ∧ n ≤ 1000000000) = false := decide_eq_false hc
  have HT : Hid (∀ W, Calls Try.prog 27 #[.string s] W fun e w' => ∃ g, e = .returned (.tuple #[.agg #[.func (.func 43) #[] #[], .slice (some ⟨g, 0, none⟩) 1 1], .bool true]) ∧ NumO w' W.heap.size w'.heap.size (.slice (some ⟨g, 0, none⟩) 1 1) [5] ∧ Kept W w') := fun W => t_ja s hs W
  clear hs hc
  have hst : ∀ (W : World) (a : Addr) (f : Nat), Sem.run Try.prog (store a (.func (.func f) #[] #[])) W = stored Try.prog W a (.func (.func f) #[] #[]) .plain := fun W a f => run_store Try.prog W a _ _ rfl
  have hst0 : ∀ (W : World) (a : Addr), Sem.run Try.prog (store a .nilFunc) W = stored Try.prog W a .nilFunc .plain := fun W a => run_store Try.prog W a _ _ rfl
  go_enter Try.func8, Try.ntmps8
  repeat (first | (go_at_call 27; refine (HT.out _).mono ?_; rintro e w2 ⟨g, rfl, -, k2⟩; dsimp only) | (go_at_call 28; refine (icounted _ _).mono ?_; rintro e w3 ⟨rfl, hw3⟩; rw [hw3, dc]; clear hw3 w3; dsimp only) | go_values | go_skip | go_guarded | go_step | go_upon)
  go_ret
  exact ⟨rfl, k2.alloc _⟩

set_option maxHeartbeats 4000000 in
theorem o_pl (s : ByteArray) (hs : s.toList = [112, 108]) (n : Int) (hc : ¬ (0 ≤ n ∧ n ≤ 1000000000)) (w : World) : Calls Try.prog 8 #[.string s, .int .i64 n] w fun e w' => e = .returned (.int .i64 0) ∧ Kept w w' := by
  have dc : decide (0 ≤ n ∧ n ≤ 1000000000) = false := decide_eq_false hc
  have HT : Hid (∀ W, Calls Try.prog 27 #[.string s] W fun e w' => ∃ g, e = .returned (.tuple #[.agg #[.func (.func 44) #[] #[], .slice (some ⟨g, 0, none⟩) 3 3], .bool true]) ∧ NumO w' W.heap.size w'.heap.size (.slice (some ⟨g, 0, none⟩) 3 3) [1, 3, 4] ∧ Kept W w') := fun W => t_pl s hs W
  clear hs hc
  have hst : ∀ (W : World) (a : Addr) (f : Nat), Sem.run Try.prog (store a (.func (.func f) #[] #[])) W = stored Try.prog W a (.func (.func f) #[] #[]) .plain := fun W a f => run_store Try.prog W a _ _ rfl
  have hst0 : ∀ (W : World) (a : Addr), Sem.run Try.prog (store a .nilFunc) W = stored Try.prog W a .nilFunc .plain := fun W a => run_store Try.prog W a _ _ rfl
  go_enter Try.func8, Try.ntmps8
  repeat (first | (go_at_call 27; refine (HT.out _).mono ?_; rintro e w2 ⟨g, rfl, -, k2⟩; dsimp only) | (go_at_call 28; refine (icounted _ _).mono ?_; rintro e w3 ⟨rfl, hw3⟩; rw [hw3, dc]; clear hw3 w3; dsimp only) | go_values | go_skip | go_guarded | go_step | go_upon)
  go_ret
  exact ⟨rfl, k2.alloc _⟩

set_option maxHeartbeats 4000000 in
theorem o_ru (s : ByteArray) (hs : s.toList = [114, 117]) (n : Int) (hc : ¬ (0 ≤ n ∧ n ≤ 1000000000)) (w : World) : Calls Try.prog 8 #[.string s, .int .i64 n] w fun e w' => e = .returned (.int .i64 0) ∧ Kept w w' := by
  have dc : decide (0 ≤ n ∧ n ≤ 1000000000) = false := decide_eq_false hc
  have HT : Hid (∀ W, Calls Try.prog 27 #[.string s] W fun e w' => ∃ g, e = .returned (.tuple #[.agg #[.func (.func 45) #[] #[], .slice (some ⟨g, 0, none⟩) 3 3], .bool true]) ∧ NumO w' W.heap.size w'.heap.size (.slice (some ⟨g, 0, none⟩) 3 3) [1, 3, 4] ∧ Kept W w') := fun W => t_ru s hs W
  clear hs hc
  have hst : ∀ (W : World) (a : Addr) (f : Nat), Sem.run Try.prog (store a (.func (.func f) #[] #[])) W = stored Try.prog W a (.func (.func f) #[] #[]) .plain := fun W a f => run_store Try.prog W a _ _ rfl
  have hst0 : ∀ (W : World) (a : Addr), Sem.run Try.prog (store a .nilFunc) W = stored Try.prog W a .nilFunc .plain := fun W a => run_store Try.prog W a _ _ rfl
  go_enter Try.func8, Try.ntmps8
  repeat (first | (go_at_call 27; refine (HT.out _).mono ?_; rintro e w2 ⟨g, rfl, -, k2⟩; dsimp only) | (go_at_call 28; refine (icounted _ _).mono ?_; rintro e w3 ⟨rfl, hw3⟩; rw [hw3, dc]; clear hw3 w3; dsimp only) | go_values | go_skip | go_guarded | go_step | go_upon)
  go_ret
  exact ⟨rfl, k2.alloc _⟩

end Go.Proofs.Ytkldfeicpenkmaa
