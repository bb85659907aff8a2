/-
  CutNode: what is refused.
-/
import Derived.Test.YtcljppnakmeldaaCutS
namespace Go.Proofs.Ytcljppnakmeldaa
open Go.ChangeShapes Go.WideShapes Go.ChangeAt Go.RowKit

set_option maxRecDepth 100000 in
set_option maxHeartbeats 4000000 in
theorem cut_no (l : List NodeD) (v : Value) (lo hi : Nat) (a : Int) (w : World) (ho : NodeO w lo hi v l) (hn : l.length ≤ 1048576) (hs : ∀ p ∈ l, p.1.size ≤ 1048576) (hno : ¬ (GoodL l ∧ 0 ≤ a ∧ a < l.length)) :
    Calls Try.prog 32 #[v, .int .i64 a] w fun e w' => ∃ v', e = .returned (.tuple #[v', .bool false]) ∧ NodeO w' w.heap.size w'.heap.size v' [] ∧ Kept w w' := by
  obtain ⟨ao, cap, hsl, hcap⟩ := own_cap ho.1
  subst hsl
  by_cases hG : GoodL l
  · have HB : Hid (true = true ↔ GoodL l) := (by simp [hG] : true = true ↔ GoodL l)
    have hr : ¬ (0 ≤ a ∧ a < l.length) := fun h => hno ⟨hG, h.1, h.2⟩
    have q2 : (decide (0 ≤ a) && decide (a < (l.length : Int))) = false := by simp; omega
    go_enter Try.func32, Try.ntmps32
    repeat (first | (go_at_call 23; refine (end_of HB.out (implGood l _ lo hi _ ho hn hs)).mono ?_; rintro e w1 ⟨rfl, k1⟩; dsimp only) | (go_at_call 46; refine (hasNode _ _ _ _ _).mono ?_; rintro e w' ⟨rfl, rfl⟩; rw [q2]; dsimp only) | go_values | go_skip | go_guarded | go_step | go_upon)
    refine bodyPost_ret (v := .tuple #[.slice none 0 0, .bool false]) (by simp [results, Try.results32, go_sem]) rfl ?_
    exact ⟨_, rfl, RowO.top (World.ownsRow_nil _ _ _ _), k1⟩
  · have HB : Hid (false = true ↔ GoodL l) := (by simp [hG] : false = true ↔ GoodL l)
    go_enter Try.func32, Try.ntmps32
    repeat (first | (go_at_call 23; refine (end_of HB.out (implGood l _ lo hi _ ho hn hs)).mono ?_; rintro e w1 ⟨rfl, k1⟩; dsimp only) | go_values | go_skip | go_guarded | go_step | go_upon)
    refine bodyPost_ret (v := .tuple #[.slice none 0 0, .bool false]) (by simp [results, Try.results32, go_sem]) rfl ?_
    exact ⟨_, rfl, RowO.top (World.ownsRow_nil _ _ _ _), k1⟩

set_option maxRecDepth 100000 in
set_option maxHeartbeats 4000000 in
theorem scut_no (l : List NodeD) (v : Value) (lo hi : Nat) (a : Int) (w : World) (ho : NodeO w lo hi v l) (hn : l.length ≤ 1048576) (hs : ∀ p ∈ l, p.1.size ≤ 1048576) (hno : ¬ (GoodL l ∧ 0 ≤ a ∧ a < l.length)) :
    Calls Try.prog 31 #[v, .int .i64 a] w fun e w' => ∃ v', e = .returned (.tuple #[v', .bool false]) ∧ NodeO w' w.heap.size w'.heap.size v' [] ∧ Kept w w' := by
  obtain ⟨ao, cap, hsl, hcap⟩ := own_cap ho.1
  subst hsl
  by_cases hG : GoodL l
  · have HB : Hid (true = true ↔ GoodL l) := (by simp [hG] : true = true ↔ GoodL l)
    have hr : ¬ (0 ≤ a ∧ a < l.length) := fun h => hno ⟨hG, h.1, h.2⟩
    have q2 : inB a 0 ((l.length : Int) - 1) = false := by rw [inB_false]; omega
    go_enter Try.func31, Try.ntmps31
    repeat (first | (go_at_call 21; refine (end_of HB.out (specGood l _ lo hi _ ho hn hs)).mono ?_; rintro e w1 ⟨rfl, k1⟩; dsimp only) | (go_at_call 48; refine (l1In _ _ _ _).mono ?_; rintro e w' ⟨rfl, rfl⟩; rw [q2]; dsimp only) | go_values | go_skip | go_guarded | go_step | go_upon)
    refine bodyPost_ret (v := .tuple #[.slice none 0 0, .bool false]) (by simp [results, Try.results31, go_sem]) rfl ?_
    exact ⟨_, rfl, RowO.top (World.ownsRow_nil _ _ _ _), k1⟩
  · have HB : Hid (false = true ↔ GoodL l) := (by simp [hG] : false = true ↔ GoodL l)
    go_enter Try.func31, Try.ntmps31
    repeat (first | (go_at_call 21; refine (end_of HB.out (specGood l _ lo hi _ ho hn hs)).mono ?_; rintro e w1 ⟨rfl, k1⟩; dsimp only) | go_values | go_skip | go_guarded | go_step | go_upon)
    refine bodyPost_ret (v := .tuple #[.slice none 0 0, .bool false]) (by simp [results, Try.results31, go_sem]) rfl ?_
    exact ⟨_, rfl, RowO.top (World.ownsRow_nil _ _ _ _), k1⟩

end Go.Proofs.Ytcljppnakmeldaa
