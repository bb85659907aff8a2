/-
  A pixel painted, in the specification.
-/
import Derived.Test.YtoimpkhgdpkhkaaPaint20
namespace Go.Proofs.Ytoimpkhgdpkhkaa
open Go.ChangeShapes Go.WideShapes Go.ChangeAt Go.RowKit

set_option maxRecDepth 100000
set_option linter.unusedVariables false
set_option linter.unusedSimpArgs false

theorem but_put {w : World} {g : Nat} (o : Obj) (j : Nat) (u : Value) : But g (g + 1) w ((w.alloc o).setCell ⟨g, j, none⟩ u) := ((But.refl _ _ _).alloc _).setCell (by simp) (by simp) _
set_option maxHeartbeats 4000000 in
theorem sput (a b x y col : Int) (l : List Int) (g cap lo hi : Nat) (w : World) (ho : NumO w lo hi (.slice (some ⟨g, 0, none⟩) l.length cap) l) (ha : 1 ≤ a ∧ a ≤ 24) (hb : 1 ≤ b ∧ b ≤ 24) (hl : (l.length : Int) = a * b) :
    Calls Try.prog 47 #[.agg #[.int .i64 a, .int .i64 b, .slice (some ⟨g, 0, none⟩) l.length cap], .int .i64 x, .int .i64 y, .int .i64 col] w fun e w' => e = .returned (.tuple #[]) ∧ NumO w' lo hi (.slice (some ⟨g, 0, none⟩) l.length cap) (putL a b l x y col) ∧ But g (g + 1) w w' := by
  rcases (Decidable.em (0 ≤ x ∧ x ≤ a - 1)).symm with h1 | h1
  · have d1 : decide (0 ≤ x ∧ x ≤ a - 1) = false := decide_eq_false h1
    rw [show putL a b l x y col = l from if_neg (fun h => h1 h.1)]
    go_enter Try.func47, Try.ntmps47
    repeat (first | (go_at_call 35; refine (sInG _ _ _ _).mono ?_; rintro e w3 ⟨rfl, hw3⟩; rw [hw3]; clear hw3 w3; (first | rw [d1]); dsimp only) | go_values | go_skip | go_guarded | go_step | go_upon)
    refine bodyPost_end (v := .tuple #[]) (by simp [results, Try.results47, go_sem]) rfl ?_
    exact ⟨rfl, ho.kept ((But.refl _ _ _).alloc _), (But.refl _ _ _).alloc _⟩
  have d1 : decide (0 ≤ x ∧ x ≤ a - 1) = true := decide_eq_true h1
  rcases (Decidable.em (0 ≤ y ∧ y ≤ b - 1)).symm with h2 | h2
  · have d2 : decide (0 ≤ y ∧ y ≤ b - 1) = false := decide_eq_false h2
    rw [show putL a b l x y col = l from if_neg (fun h => h2 h.2)]
    go_enter Try.func47, Try.ntmps47
    repeat (first | (go_at_call 35; refine (sInG _ _ _ _).mono ?_; rintro e w3 ⟨rfl, hw3⟩; rw [hw3]; clear hw3 w3; (first | rw [d1] | rw [d2]); dsimp only) | go_values | go_skip | go_guarded | go_step | go_upon)
    refine bodyPost_end (v := .tuple #[]) (by simp [results, Try.results47, go_sem]) rfl ?_
    exact ⟨rfl, ho.kept ((But.refl _ _ _).alloc _), (But.refl _ _ _).alloc _⟩
  have d2 : decide (0 ≤ y ∧ y ≤ b - 1) = true := decide_eq_true h2
  rw [show putL a b l x y col = l.set (y * a + x).toNat col from if_pos ⟨h1, h2⟩]
  obtain ⟨n0, n1⟩ := idx_in h1 h2
  have m1 : y * a ≤ 24 * 24 := Int.mul_le_mul (by omega) (by omega) (by omega) (by omega)
  obtain ⟨p, hp⟩ := getI_at (l := l) (k := y * a + x) (by omega) (by omega)
  have ho' : NumO (w.alloc (.cells #[.int .i64 a, .int .i64 b, .slice (some ⟨g, 0, none⟩) l.length cap] 49)) lo hi (.slice (some ⟨g, 0, none⟩) l.length cap) l := ho.kept ((But.refl _ _ _).alloc _)
  obtain ⟨d0, dz⟩ := ho'.cells hp
  have dz0 := dz (y * a + x).toNat
  have q1 : (0 : Int) ≤ y * a + x := by omega
  have q2 : y * a + x < (l.length : Int) := by omega
  have HS := ho'.set rfl hp col
  have HS : Hid _ := HS
  clear ho' dz hp
  go_enter Try.func47, Try.ntmps47
  repeat (first | (go_at_call 35; refine (sInG _ _ _ _).mono ?_; rintro e w3 ⟨rfl, hw3⟩; rw [hw3]; clear hw3 w3; (first | rw [d1] | rw [d2]); dsimp only) | go_values | go_skip | go_guarded | go_step | go_upon)
  refine bodyPost_end (v := .tuple #[]) (by simp [results, Try.results47, go_sem]) rfl ?_
  exact ⟨rfl, HS.out, but_put _ _ _⟩

end Go.Proofs.Ytoimpkhgdpkhkaa
