/-
  The kind of a cell, in the program.
-/
import Derived.Test.YtnfkgnbhdhpnmaaBlock13
namespace Go.Proofs.Ytnfkgnbhdhpnmaa
open Go.ChangeShapes Go.WideShapes Go.ChangeAt Go.RowKit

set_option maxRecDepth 100000
set_option linter.unusedVariables false
set_option maxHeartbeats 8000000 in
theorem icell (a b d : Int) (l : List Int) (x y z : Int) (ao : Option Addr) (cap : Nat) (w : World) (hv : NumAt w (.slice ao l.length cap) l) (hn : l.length ≤ 9000000000000000000) :
    Calls Try.prog 49 #[.agg #[.int .i64 a, .int .i64 b, .int .i64 d, .slice ao l.length cap], .int .i64 x, .int .i64 y, .int .i64 z] w fun e w' => e = .returned (.tuple #[.int .i64 (cellA a b d l x y z).1, .bool (cellA a b d l x y z).2]) ∧ Kept w w' := by
  by_cases hg : BlocksP a b d l
  · have dg : decide (BlocksP a b d l) = true := decide_eq_true hg
    by_cases q0 : x < 0
    · have d0 : decide (x < 0) = true := decide_eq_true q0
      rw [show cellA a b d l x y z = (0, false) from if_neg fun h => by have := h.2.1.1; omega]
      go_enter Try.func49, Try.ntmps49
      repeat (first | (go_at_call 19; refine (igood _ _ _ _ _ _ _ (hv.kept ((But.refl _ _ _).alloc _)) hn).mono ?_; rintro e u1 ⟨rfl, k1⟩; rw [dg]; have K1 : Kept w u1 := ((But.refl _ _ _).alloc _).trans k1; have L1 := (Loc.new w [.int .i64 a, .int .i64 b, .int .i64 d, .slice ao l.length cap] 25).kept k1; have v0 := L1.cell 0 rfl; have v1 := L1.cell 1 rfl; have v2 := L1.cell 2 rfl; have v3 := L1.cell 3 rfl; (try dsimp only)) | go_values | go_skip | go_guarded | go_step | go_upon)
      go_returns
      exact ⟨rfl, K1⟩
    have d0 : decide (x < 0) = false := decide_eq_false q0
    by_cases q1 : x ≥ a
    · have d1 : decide (a ≤ x) = true := decide_eq_true q1
      rw [show cellA a b d l x y z = (0, false) from if_neg fun h => by have := h.2.1.2; omega]
      go_enter Try.func49, Try.ntmps49
      repeat (first | (go_at_call 19; refine (igood _ _ _ _ _ _ _ (hv.kept ((But.refl _ _ _).alloc _)) hn).mono ?_; rintro e u1 ⟨rfl, k1⟩; rw [dg]; have K1 : Kept w u1 := ((But.refl _ _ _).alloc _).trans k1; have L1 := (Loc.new w [.int .i64 a, .int .i64 b, .int .i64 d, .slice ao l.length cap] 25).kept k1; have v0 := L1.cell 0 rfl; have v1 := L1.cell 1 rfl; have v2 := L1.cell 2 rfl; have v3 := L1.cell 3 rfl; (try dsimp only)) | go_values | go_skip | go_guarded | go_step | go_upon)
      go_returns
      exact ⟨rfl, K1⟩
    have d1 : decide (a ≤ x) = false := decide_eq_false q1
    by_cases q2 : y < 0
    · have d2 : decide (y < 0) = true := decide_eq_true q2
      rw [show cellA a b d l x y z = (0, false) from if_neg fun h => by have := h.2.2.1.1; omega]
      go_enter Try.func49, Try.ntmps49
      repeat (first | (go_at_call 19; refine (igood _ _ _ _ _ _ _ (hv.kept ((But.refl _ _ _).alloc _)) hn).mono ?_; rintro e u1 ⟨rfl, k1⟩; rw [dg]; have K1 : Kept w u1 := ((But.refl _ _ _).alloc _).trans k1; have L1 := (Loc.new w [.int .i64 a, .int .i64 b, .int .i64 d, .slice ao l.length cap] 25).kept k1; have v0 := L1.cell 0 rfl; have v1 := L1.cell 1 rfl; have v2 := L1.cell 2 rfl; have v3 := L1.cell 3 rfl; (try dsimp only)) | go_values | go_skip | go_guarded | go_step | go_upon)
      go_returns
      exact ⟨rfl, K1⟩
    have d2 : decide (y < 0) = false := decide_eq_false q2
    by_cases q3 : y ≥ b
    · have d3 : decide (b ≤ y) = true := decide_eq_true q3
      rw [show cellA a b d l x y z = (0, false) from if_neg fun h => by have := h.2.2.1.2; omega]
      go_enter Try.func49, Try.ntmps49
      repeat (first | (go_at_call 19; refine (igood _ _ _ _ _ _ _ (hv.kept ((But.refl _ _ _).alloc _)) hn).mono ?_; rintro e u1 ⟨rfl, k1⟩; rw [dg]; have K1 : Kept w u1 := ((But.refl _ _ _).alloc _).trans k1; have L1 := (Loc.new w [.int .i64 a, .int .i64 b, .int .i64 d, .slice ao l.length cap] 25).kept k1; have v0 := L1.cell 0 rfl; have v1 := L1.cell 1 rfl; have v2 := L1.cell 2 rfl; have v3 := L1.cell 3 rfl; (try dsimp only)) | go_values | go_skip | go_guarded | go_step | go_upon)
      go_returns
      exact ⟨rfl, K1⟩
    have d3 : decide (b ≤ y) = false := decide_eq_false q3
    by_cases q4 : z < 0
    · have d4 : decide (z < 0) = true := decide_eq_true q4
      rw [show cellA a b d l x y z = (0, false) from if_neg fun h => by have := h.2.2.2.1; omega]
      go_enter Try.func49, Try.ntmps49
      repeat (first | (go_at_call 19; refine (igood _ _ _ _ _ _ _ (hv.kept ((But.refl _ _ _).alloc _)) hn).mono ?_; rintro e u1 ⟨rfl, k1⟩; rw [dg]; have K1 : Kept w u1 := ((But.refl _ _ _).alloc _).trans k1; have L1 := (Loc.new w [.int .i64 a, .int .i64 b, .int .i64 d, .slice ao l.length cap] 25).kept k1; have v0 := L1.cell 0 rfl; have v1 := L1.cell 1 rfl; have v2 := L1.cell 2 rfl; have v3 := L1.cell 3 rfl; (try dsimp only)) | go_values | go_skip | go_guarded | go_step | go_upon)
      go_returns
      exact ⟨rfl, K1⟩
    have d4 : decide (z < 0) = false := decide_eq_false q4
    by_cases q5 : z ≥ d
    · have d5 : decide (d ≤ z) = true := decide_eq_true q5
      rw [show cellA a b d l x y z = (0, false) from if_neg fun h => by have := h.2.2.2.2; omega]
      go_enter Try.func49, Try.ntmps49
      repeat (first | (go_at_call 19; refine (igood _ _ _ _ _ _ _ (hv.kept ((But.refl _ _ _).alloc _)) hn).mono ?_; rintro e u1 ⟨rfl, k1⟩; rw [dg]; have K1 : Kept w u1 := ((But.refl _ _ _).alloc _).trans k1; have L1 := (Loc.new w [.int .i64 a, .int .i64 b, .int .i64 d, .slice ao l.length cap] 25).kept k1; have v0 := L1.cell 0 rfl; have v1 := L1.cell 1 rfl; have v2 := L1.cell 2 rfl; have v3 := L1.cell 3 rfl; (try dsimp only)) | go_values | go_skip | go_guarded | go_step | go_upon)
      go_returns
      exact ⟨rfl, K1⟩
    have d5 : decide (d ≤ z) = false := decide_eq_false q5
    have hh : Here a b d x y z := by unfold Here; omega
    rw [show cellA a b d l x y z = (num a b x y z, true) from if_pos ⟨hg, hh⟩]
    obtain ⟨⟨m1, m2⟩, ⟨m3, m4⟩, ⟨m5, m6⟩, m7, m8⟩ := num_steps hg.edge hh
    go_enter Try.func49, Try.ntmps49
    repeat (first | (go_at_call 19; refine (igood _ _ _ _ _ _ _ (hv.kept ((But.refl _ _ _).alloc _)) hn).mono ?_; rintro e u1 ⟨rfl, k1⟩; rw [dg]; have K1 : Kept w u1 := ((But.refl _ _ _).alloc _).trans k1; have L1 := (Loc.new w [.int .i64 a, .int .i64 b, .int .i64 d, .slice ao l.length cap] 25).kept k1; have v0 := L1.cell 0 rfl; have v1 := L1.cell 1 rfl; have v2 := L1.cell 2 rfl; have v3 := L1.cell 3 rfl; (try dsimp only)) | go_values | go_skip | go_guarded | go_step | go_upon)
    go_returns
    exact ⟨rfl, K1⟩
  · have dg : decide (BlocksP a b d l) = false := decide_eq_false hg
    rw [show cellA a b d l x y z = (0, false) from if_neg fun h => hg h.1]
    go_enter Try.func49, Try.ntmps49
    repeat (first | (go_at_call 19; refine (igood _ _ _ _ _ _ _ (hv.kept ((But.refl _ _ _).alloc _)) hn).mono ?_; rintro e u1 ⟨rfl, k1⟩; rw [dg]; have K1 : Kept w u1 := ((But.refl _ _ _).alloc _).trans k1; have L1 := (Loc.new w [.int .i64 a, .int .i64 b, .int .i64 d, .slice ao l.length cap] 25).kept k1; have v0 := L1.cell 0 rfl; have v1 := L1.cell 1 rfl; have v2 := L1.cell 2 rfl; have v3 := L1.cell 3 rfl; (try dsimp only)) | go_values | go_skip | go_guarded | go_step | go_upon)
    go_returns
    exact ⟨rfl, K1⟩
set_option maxHeartbeats 8000000 in
theorem iblock (a b d : Int) (l : List Int) (x y z : Int) (ao : Option Addr) (cap : Nat) (w : World) (hv : NumAt w (.slice ao l.length cap) l) (hn : l.length ≤ 9000000000000000000) :
    Calls Try.prog 22 #[.agg #[.int .i64 a, .int .i64 b, .int .i64 d, .slice ao l.length cap], .int .i64 x, .int .i64 y, .int .i64 z] w fun e w' => e = .returned (.int .i64 (blockA a b d l x y z)) ∧ Kept w w' := by
  by_cases hg : BlocksP a b d l ∧ Here a b d x y z
  · rw [show blockA a b d l x y z = getI l (num a b x y z) from if_pos hg]
    have ha : cellA a b d l x y z = (num a b x y z, true) := if_pos hg
    obtain ⟨n0, n1⟩ := num_lt hg.1 hg.2
    obtain ⟨N, hN⟩ : ∃ N, N = num a b x y z := ⟨_, rfl⟩
    rw [← hN] at ha n0 n1 ⊢
    clear hN
    obtain ⟨g, o, rfl, c0, gl⟩ := cell_of hv n0 n1
    go_enter Try.func22, Try.ntmps22
    repeat (first | (go_at_call 49; refine (icell _ _ _ _ _ _ _ _ _ _ (hv.kept ((But.refl _ _ _).alloc _)) hn).mono ?_; rintro e u1 ⟨rfl, k1⟩; rw [ha]; have K1 : Kept w u1 := ((But.refl _ _ _).alloc _).trans k1; have L1 := (Loc.new w [.int .i64 a, .int .i64 b, .int .i64 d, .slice (some ⟨g, o, none⟩) l.length cap] 25).kept k1; have v0 := L1.cell 0 rfl; have v1 := L1.cell 1 rfl; have v2 := L1.cell 2 rfl; have v3 := L1.cell 3 rfl; have c1 := Kept.cell K1 c0; (try dsimp only)) | go_values | go_skip | go_guarded | go_step | go_upon)
    go_ret
    exact ⟨rfl, K1⟩
  · rw [show blockA a b d l x y z = -1 from if_neg hg]
    have ha : cellA a b d l x y z = (0, false) := if_neg hg
    go_enter Try.func22, Try.ntmps22
    repeat (first | (go_at_call 49; refine (icell _ _ _ _ _ _ _ _ _ _ (hv.kept ((But.refl _ _ _).alloc _)) hn).mono ?_; rintro e u1 ⟨rfl, k1⟩; rw [ha]; have K1 : Kept w u1 := ((But.refl _ _ _).alloc _).trans k1; (try dsimp only)) | go_values | go_skip | go_guarded | go_step | go_upon)
    go_ret
    exact ⟨rfl, K1⟩

end Go.Proofs.Ytnfkgnbhdhpnmaa
