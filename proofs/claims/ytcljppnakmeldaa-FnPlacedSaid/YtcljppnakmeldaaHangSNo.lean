/-
  Hang in the specification: what is refused.
-/
import Derived.Test.YtcljppnakmeldaaHangS
namespace Go.Proofs.Ytcljppnakmeldaa
open Go.ChangeShapes Go.WideShapes Go.ChangeAt Go.RowKit

set_option maxRecDepth 100000 in
set_option maxHeartbeats 4000000 in
theorem shang_no1 (l : List NodeD) (v : Value) (lo hi : Nat) (a u : Int) (w : World) (ho : NodeO w lo hi v l) (hn : l.length ≤ 1048576) (hs : ∀ p ∈ l, p.1.size ≤ 1048576) (hno : spotA l a = none) :
    Calls Try.prog 18 #[v, .int .i64 a, .int .i64 u] w fun e w' => ∃ v', e = .returned (.tuple #[v', .bool false]) ∧ NodeO w' w.heap.size w'.heap.size v' [] ∧ Kept w w' := by
  obtain ⟨ao, cap, hsl, hcap⟩ := own_cap ho.1
  subst hsl
  have hspo := specSpotOf l (.slice ao l.length cap) lo hi a w ho hn hs
  rw [hno] at hspo
  have HSP : Hid (Calls Try.prog 25 _ _ _) := hspo
  clear hspo hno
  go_enter Try.func18, Try.ntmps18
  repeat (first | (go_at_call 25; refine HSP.out.mono ?_; rintro e w1 ⟨rfl, k1⟩; dsimp only [standA, sv]) | go_values | go_skip | go_guarded | go_step | go_upon)
  refine bodyPost_ret (v := .tuple #[.slice none 0 0, .bool false]) (by simp [results, Try.results18, go_sem]) rfl ?_
  exact ⟨_, rfl, RowO.top (World.ownsRow_nil _ _ _ _), k1.alloc _⟩

set_option maxRecDepth 100000 in
set_option maxHeartbeats 4000000 in
theorem shang_no2 (l : List NodeD) (v : Value) (lo hi : Nat) (a u : Int) (w : World) (ho : NodeO w lo hi v l) (hn : l.length ≤ 1048576) (hs : ∀ p ∈ l, p.1.size ≤ 1048576) (s : SpotD) (hsp : spotA l a = some s) (hu : ¬ (-1 ≤ u ∧ u < a)) (ha : 0 ≤ a) (hal : a < l.length) :
    Calls Try.prog 18 #[v, .int .i64 a, .int .i64 u] w fun e w' => ∃ v', e = .returned (.tuple #[v', .bool false]) ∧ NodeO w' w.heap.size w'.heap.size v' [] ∧ Kept w w' := by
  obtain ⟨ao, cap, hsl, hcap⟩ := own_cap ho.1
  subst hsl
  obtain ⟨sx, sy, st, sf⟩ := s
  have hspo := specSpotOf l (.slice ao l.length cap) lo hi a w ho hn hs
  rw [hsp] at hspo
  have HSP : Hid (Calls Try.prog 25 _ _ _) := hspo
  have q2 : inB u (-1) (a - 1) = false := by rw [inB_false]; intro h; exact hu ⟨h.1, by omega⟩
  clear hspo hsp
  go_enter Try.func18, Try.ntmps18
  repeat (first | (go_at_call 25; refine HSP.out.mono ?_; rintro e w1 ⟨rfl, k1⟩; dsimp only [standA, sv]) | (go_at_call 48; refine (l1In _ _ _ _).mono ?_; rintro e w' ⟨rfl, rfl⟩; rw [q2]; dsimp only) | go_values | go_skip | go_guarded | go_step | go_upon)
  refine bodyPost_ret (v := .tuple #[.slice none 0 0, .bool false]) (by simp [results, Try.results18, go_sem]) rfl ?_
  exact ⟨_, rfl, RowO.top (World.ownsRow_nil _ _ _ _), k1.alloc _⟩

set_option maxRecDepth 100000 in
set_option maxHeartbeats 4000000 in
theorem shang_no3 (l : List NodeD) (v : Value) (lo hi : Nat) (a u : Int) (w : World) (ho : NodeO w lo hi v l) (hn : l.length ≤ 1048576) (hs : ∀ p ∈ l, p.1.size ≤ 1048576) (s : SpotD) (hsp : spotA l a = some s) (hu0 : -1 ≤ u) (hu1 : u < a) (ha : 0 ≤ a) (hal : a < l.length) (ys : List UpE) (hcu : Chain l u ys) (hyg : ∀ x ∈ ys, GoodS (spotN x.2)) (hsg : standM s0 (rows ys).reverse = none) :
    Calls Try.prog 18 #[v, .int .i64 a, .int .i64 u] w fun e w' => ∃ v', e = .returned (.tuple #[v', .bool false]) ∧ NodeO w' w.heap.size w'.heap.size v' [] ∧ Kept w w' := by
  obtain ⟨ao, cap, hsl, hcap⟩ := own_cap ho.1
  subst hsl
  obtain ⟨sx, sy, st, sf⟩ := s
  have hv := ho.at
  have hspo := specSpotOf l (.slice ao l.length cap) lo hi a w ho hn hs
  rw [hsp] at hspo
  have HSP : Hid (Calls Try.prog 25 _ _ _) := hspo
  have q2 : inB u (-1) (a - 1) = true := by simp [inB]; omega
  have hWh := fun W h => l4Where l (.slice ao l.length cap) ys u W hcu h hyg
  rw [hsg] at hWh
  have HWH : Hid _ := hWh
  clear hspo hsp hWh hsg hcu hyg
  go_enter Try.func18, Try.ntmps18
  repeat (first | (go_at_call 25; refine HSP.out.mono ?_; rintro e w1 ⟨rfl, k1⟩; dsimp only [standA, sv]) | (go_at_call 48; refine (l1In _ _ _ _).mono ?_; rintro e w' ⟨rfl, rfl⟩; rw [q2]; dsimp only) | go_values | go_skip | go_guarded | go_step | go_upon)
  go_at_call 49
  refine (HWH.out _ (hv.kept (k1.alloc _))).mono ?_
  rintro e w2 ⟨⟨⟨gx, gy, gt, gf⟩, ob, rfl, h1, h2⟩, k2⟩
  cases ob with
  | true => exact absurd (h1 rfl) (by simp)
  | false =>
  dsimp only [sv]
  clear h1 h2
  repeat (first | go_values | go_skip | go_guarded | go_step | go_upon)
  refine bodyPost_ret (v := .tuple #[.slice none 0 0, .bool false]) (by simp [results, Try.results18, go_sem]) rfl ?_
  exact ⟨_, rfl, RowO.top (World.ownsRow_nil _ _ _ _), ((k1.alloc _).trans k2).alloc _⟩

end Go.Proofs.Ytcljppnakmeldaa
