/-
  Hang in the program: what is refused.
-/
import Derived.Test.YtcljppnakmeldaaHang
namespace Go.Proofs.Ytcljppnakmeldaa
open Go.ChangeShapes Go.WideShapes Go.ChangeAt Go.RowKit

set_option maxRecDepth 100000 in
set_option maxHeartbeats 4000000 in
theorem hang_out (l : List NodeD) (v : Value) (lo hi : Nat) (a u : Int) (w : World) (ho : NodeO w lo hi v l) (hn : l.length ≤ 1048576) (hs : ∀ p ∈ l, p.1.size ≤ 1048576) (hno : ¬ (GoodL l ∧ 0 ≤ a ∧ a < l.length ∧ -1 ≤ u ∧ u < a)) :
    Calls Try.prog 17 #[v, .int .i64 a, .int .i64 u] w fun e w' => ∃ v', e = .returned (.tuple #[v', .bool false]) ∧ NodeO w' w.heap.size w'.heap.size v' [] ∧ Kept w w' := by
  obtain ⟨ao, cap, hsl, hcap⟩ := own_cap ho.1
  subst hsl
  by_cases hG : GoodL l
  · have HB : Hid (true = true ↔ GoodL l) := (by simp [hG] : true = true ↔ GoodL l)
    by_cases hr : 0 ≤ a ∧ a < l.length
    · have q2 : (decide (0 ≤ a) && decide (a < (l.length : Int))) = true := by simp; omega
      by_cases hu : u < -1
      · have q3 : decide (u < -1) = true := by simp; omega
        go_enter Try.func17, Try.ntmps17
        repeat (first | (go_at_call 23; refine (end_of HB.out (implGood l _ lo hi _ ho hn hs)).mono ?_; rintro e w1 ⟨rfl, k1⟩; dsimp only) | (go_at_call 46; refine (hasNode _ _ _ _ _).mono ?_; rintro e w' ⟨rfl, rfl⟩; rw [q2]; dsimp only) | go_values | go_skip | go_guarded | go_step | go_upon)
        refine bodyPost_ret (v := .tuple #[.slice none 0 0, .bool false]) (by simp [results, Try.results17, go_sem]) rfl ?_
        exact ⟨_, rfl, RowO.top (World.ownsRow_nil _ _ _ _), k1⟩
      · have q3 : decide (u < -1) = false := by simp; omega
        have hua : a ≤ u := by
          by_cases hx : a ≤ u
          · exact hx
          · exact absurd ⟨hG, hr.1, hr.2, by omega, by omega⟩ hno
        have q4 : decide (a ≤ u) = true := by simp; omega
        go_enter Try.func17, Try.ntmps17
        repeat (first | (go_at_call 23; refine (end_of HB.out (implGood l _ lo hi _ ho hn hs)).mono ?_; rintro e w1 ⟨rfl, k1⟩; dsimp only) | (go_at_call 46; refine (hasNode _ _ _ _ _).mono ?_; rintro e w' ⟨rfl, rfl⟩; rw [q2]; dsimp only) | go_values | go_skip | go_guarded | go_step | go_upon)
        refine bodyPost_ret (v := .tuple #[.slice none 0 0, .bool false]) (by simp [results, Try.results17, go_sem]) rfl ?_
        exact ⟨_, rfl, RowO.top (World.ownsRow_nil _ _ _ _), k1⟩
    · have q2 : (decide (0 ≤ a) && decide (a < (l.length : Int))) = false := by simp; omega
      go_enter Try.func17, Try.ntmps17
      repeat (first | (go_at_call 23; refine (end_of HB.out (implGood l _ lo hi _ ho hn hs)).mono ?_; rintro e w1 ⟨rfl, k1⟩; dsimp only) | (go_at_call 46; refine (hasNode _ _ _ _ _).mono ?_; rintro e w' ⟨rfl, rfl⟩; rw [q2]; dsimp only) | go_values | go_skip | go_guarded | go_step | go_upon)
      refine bodyPost_ret (v := .tuple #[.slice none 0 0, .bool false]) (by simp [results, Try.results17, go_sem]) rfl ?_
      exact ⟨_, rfl, RowO.top (World.ownsRow_nil _ _ _ _), k1⟩
  · have HB : Hid (false = true ↔ GoodL l) := (by simp [hG] : false = true ↔ GoodL l)
    go_enter Try.func17, Try.ntmps17
    repeat (first | (go_at_call 23; refine (end_of HB.out (implGood l _ lo hi _ ho hn hs)).mono ?_; rintro e w1 ⟨rfl, k1⟩; dsimp only) | go_values | go_skip | go_guarded | go_step | go_upon)
    refine bodyPost_ret (v := .tuple #[.slice none 0 0, .bool false]) (by simp [results, Try.results17, go_sem]) rfl ?_
    exact ⟨_, rfl, RowO.top (World.ownsRow_nil _ _ _ _), k1⟩

set_option maxRecDepth 100000 in
set_option maxHeartbeats 4000000 in
theorem hang_lost (l : List NodeD) (v : Value) (lo hi : Nat) (a u : Int) (w : World) (ho : NodeO w lo hi v l) (hn : l.length ≤ 1048576) (hs : ∀ p ∈ l, p.1.size ≤ 1048576) (hG : GoodL l) (h1 : 0 ≤ a) (h2 : a < l.length) (h3 : -1 ≤ u) (h4 : u < a) (xs ys : List UpE) (hch : Chain l a xs) (hcu : Chain l u ys) (hxl : xs.length ≤ 1048576) (hyl : ys.length ≤ 1048576)
    (j : SpotD) (hj : seenA (standM s0 (rows ys).reverse) (standM s0 (rows xs).reverse) = (j, false)) :
    Calls Try.prog 17 #[v, .int .i64 a, .int .i64 u] w fun e w' => ∃ v', e = .returned (.tuple #[v', .bool false]) ∧ NodeO w' w.heap.size w'.heap.size v' [] ∧ Kept w w' := by
  obtain ⟨ao, cap, hsl, hcap⟩ := own_cap ho.1
  subst hsl
  have hv := ho.at
  obtain ⟨jx, jy, jt, jf⟩ := j
  have HB : Hid (true = true ↔ GoodL l) := (by simp [hG] : true = true ↔ GoodL l)
  have q2 : (decide (0 ≤ a) && decide (a < (l.length : Int))) = true := by simp; omega
  have q3 : decide (u < -1) = false := by simp; omega
  have q4 : decide (a ≤ u) = false := by simp; omega
  have hse := fun W h => seenFrom l (.slice ao l.length cap) a u xs ys hch hcu W h hxl hyl
  rw [hj] at hse
  have HSE : Hid _ := hse
  clear hse hj hch hcu
  go_enter Try.func17, Try.ntmps17
  repeat (first | (go_at_call 23; refine (end_of HB.out (implGood l _ lo hi _ ho hn hs)).mono ?_; rintro e w1 ⟨rfl, k1⟩; dsimp only) | (go_at_call 46; refine (hasNode _ _ _ _ _).mono ?_; rintro e w' ⟨rfl, rfl⟩; rw [q2]; dsimp only) | (go_at_call 47; refine (HSE.out _ (hv.kept k1)).mono ?_; rintro e w2 ⟨rfl, k2⟩; dsimp only [sv]) | go_values | go_skip | go_guarded | go_step | go_upon)
  refine bodyPost_ret (v := .tuple #[.slice none 0 0, .bool false]) (by simp [results, Try.results17, go_sem]) rfl ?_
  exact ⟨_, rfl, RowO.top (World.ownsRow_nil _ _ _ _), (k1.trans k2).alloc _⟩

end Go.Proofs.Ytcljppnakmeldaa
