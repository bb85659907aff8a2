/-
  The cell next to one along a way, in the specification.
-/
import Derived.Test.YtnfkgnbhdhpnmaaPlace13
namespace Go.Proofs.Ytnfkgnbhdhpnmaa
open Go.ChangeShapes Go.WideShapes Go.ChangeAt Go.RowKit

set_option maxRecDepth 100000
set_option linter.unusedVariables false
theorem own_some {w : World} {lo hi : Nat} {v : Value} {l : List NumD} (h : NumO w lo hi v l) (hl : 0 < l.length) : ∃ g cap, v = .slice (some ⟨g, 0, none⟩) l.length cap := by
  rcases h.1.2 with ⟨hf, hn⟩ | ⟨g, c2, cur, hf, _⟩
  · omega
  · exact ⟨g, c2, hf⟩
set_option maxHeartbeats 8000000 in
theorem snext (a b d n : Int) (wy : Nat) (s : Value) (w : World) (he : Edge a b d) (h0 : 0 ≤ n) (h1 : n ≤ a * b * d - 1) (hw : wy < 6) :
    Calls Try.prog 54 #[.agg #[.int .i64 a, .int .i64 b, .int .i64 d, s], .int .i64 n, .int .i64 (wy : Int)] w fun e w' => e = .returned (.int .i64 (nx a b d n wy)) ∧ Kept w w' := by
  have h2 : n ≤ 511 := by have := he.vol; omega
  obtain ⟨x, y, z, hh, rfl⟩ := num_of he h0 h1
  have px := num_x hh
  have py := num_y hh
  have pz := num_z hh
  have bb : (0 ≤ x ∧ x ≤ 7) ∧ (0 ≤ y ∧ y ≤ 7) ∧ (0 ≤ z ∧ z ≤ 7) := by
    obtain ⟨⟨x1, x2⟩, ⟨y1, y2⟩, z1, z2⟩ := hh
    obtain ⟨⟨a1, a2⟩, ⟨b1, b2⟩, d1, d2⟩ := he
    omega
  obtain ⟨⟨x1, x2⟩, ⟨y1, y2⟩, z1, z2⟩ := bb
  rw [nx_at he hh hw]
  obtain ⟨N, hN⟩ : ∃ N, N = num a b x y z := ⟨_, rfl⟩
  rw [← hN] at px py pz h0 h1 h2 ⊢
  clear hN
  obtain rfl | rfl | rfl | rfl | rfl | rfl : wy = 0 ∨ wy = 1 ∨ wy = 2 ∨ wy = 3 ∨ wy = 4 ∨ wy = 5 := by omega
  · go_enter Try.func54, Try.ntmps54
    repeat (first | (go_at_call 66; refine (splace a b d _ _ _ he h0 h2).mono ?_; rintro e u1 ⟨v1, rfl, o1, k1⟩) | go_values | go_skip | go_guarded | go_step | go_upon)
    rw [px, py, pz] at o1
    have K1 : Kept w u1 := ((But.refl _ _ _).alloc _).trans k1
    have L1 := (Loc.new w [.int .i64 a, .int .i64 b, .int .i64 d, s] 25).kept k1
    have v0 := L1.cell 0 rfl
    have v1' := L1.cell 1 rfl
    have v2 := L1.cell 2 rfl
    have v3 := L1.cell 3 rfl
    obtain ⟨g1, cap1, ef2⟩ := own_some o1 (by simp)
    subst ef2
    simp only [List.length_cons, List.length_nil, Nat.zero_add, Nat.reduceAdd] at o1 ⊢
    have hlt1 := own_lt o1.1 (g := g1) rfl
    simp only [World.size_alloc] at hlt1
    obtain ⟨d0, dz⟩ := o1.cells (i := 0) rfl
    have dz0 := dz 0
    have o2 := o1.set (i := 0) rfl rfl (x + -1)
    have HO : Hid (NumO _ _ _ _ [x + -1, y, z]) := o2
    have hne : g1 ≠ w.heap.size := by omega
    clear o1 o2 dz
    (try dsimp only)
    repeat (first | go_values | go_skip | go_guarded | go_step | go_upon)
    go_at_call 48
    refine (sat a b d _ _ _ _ _ _ HO.out.at he).mono ?_
    rintro e u2 ⟨rfl, k2⟩
    (try dsimp only)
    repeat (first | go_values | go_skip | go_guarded | go_step | go_upon)
    go_ret
    exact ⟨ret_int (by simp [stepX, stepY, stepZ]), (K1.setNew (by simp; omega) _).trans k2⟩
  · go_enter Try.func54, Try.ntmps54
    repeat (first | (go_at_call 66; refine (splace a b d _ _ _ he h0 h2).mono ?_; rintro e u1 ⟨v1, rfl, o1, k1⟩) | go_values | go_skip | go_guarded | go_step | go_upon)
    rw [px, py, pz] at o1
    have K1 : Kept w u1 := ((But.refl _ _ _).alloc _).trans k1
    have L1 := (Loc.new w [.int .i64 a, .int .i64 b, .int .i64 d, s] 25).kept k1
    have v0 := L1.cell 0 rfl
    have v1' := L1.cell 1 rfl
    have v2 := L1.cell 2 rfl
    have v3 := L1.cell 3 rfl
    obtain ⟨g1, cap1, ef2⟩ := own_some o1 (by simp)
    subst ef2
    simp only [List.length_cons, List.length_nil, Nat.zero_add, Nat.reduceAdd] at o1 ⊢
    have hlt1 := own_lt o1.1 (g := g1) rfl
    simp only [World.size_alloc] at hlt1
    obtain ⟨d0, dz⟩ := o1.cells (i := 0) rfl
    have dz0 := dz 0
    have o2 := o1.set (i := 0) rfl rfl (x + 1)
    have HO : Hid (NumO _ _ _ _ [x + 1, y, z]) := o2
    have hne : g1 ≠ w.heap.size := by omega
    clear o1 o2 dz
    (try dsimp only)
    repeat (first | go_values | go_skip | go_guarded | go_step | go_upon)
    go_at_call 48
    refine (sat a b d _ _ _ _ _ _ HO.out.at he).mono ?_
    rintro e u2 ⟨rfl, k2⟩
    (try dsimp only)
    repeat (first | go_values | go_skip | go_guarded | go_step | go_upon)
    go_ret
    exact ⟨ret_int (by simp [stepX, stepY, stepZ]), (K1.setNew (by simp; omega) _).trans k2⟩
  · go_enter Try.func54, Try.ntmps54
    repeat (first | (go_at_call 66; refine (splace a b d _ _ _ he h0 h2).mono ?_; rintro e u1 ⟨v1, rfl, o1, k1⟩) | go_values | go_skip | go_guarded | go_step | go_upon)
    rw [px, py, pz] at o1
    have K1 : Kept w u1 := ((But.refl _ _ _).alloc _).trans k1
    have L1 := (Loc.new w [.int .i64 a, .int .i64 b, .int .i64 d, s] 25).kept k1
    have v0 := L1.cell 0 rfl
    have v1' := L1.cell 1 rfl
    have v2 := L1.cell 2 rfl
    have v3 := L1.cell 3 rfl
    obtain ⟨g1, cap1, ef2⟩ := own_some o1 (by simp)
    subst ef2
    simp only [List.length_cons, List.length_nil, Nat.zero_add, Nat.reduceAdd] at o1 ⊢
    have hlt1 := own_lt o1.1 (g := g1) rfl
    simp only [World.size_alloc] at hlt1
    obtain ⟨d0, dz⟩ := o1.cells (i := 1) rfl
    have dz0 := dz 1
    have o2 := o1.set (i := 1) rfl rfl (y + -1)
    have HO : Hid (NumO _ _ _ _ [x, y + -1, z]) := o2
    have hne : g1 ≠ w.heap.size := by omega
    clear o1 o2 dz
    (try dsimp only)
    repeat (first | go_values | go_skip | go_guarded | go_step | go_upon)
    go_at_call 48
    refine (sat a b d _ _ _ _ _ _ HO.out.at he).mono ?_
    rintro e u2 ⟨rfl, k2⟩
    (try dsimp only)
    repeat (first | go_values | go_skip | go_guarded | go_step | go_upon)
    go_ret
    exact ⟨ret_int (by simp [stepX, stepY, stepZ]), (K1.setNew (by simp; omega) _).trans k2⟩
  · go_enter Try.func54, Try.ntmps54
    repeat (first | (go_at_call 66; refine (splace a b d _ _ _ he h0 h2).mono ?_; rintro e u1 ⟨v1, rfl, o1, k1⟩) | go_values | go_skip | go_guarded | go_step | go_upon)
    rw [px, py, pz] at o1
    have K1 : Kept w u1 := ((But.refl _ _ _).alloc _).trans k1
    have L1 := (Loc.new w [.int .i64 a, .int .i64 b, .int .i64 d, s] 25).kept k1
    have v0 := L1.cell 0 rfl
    have v1' := L1.cell 1 rfl
    have v2 := L1.cell 2 rfl
    have v3 := L1.cell 3 rfl
    obtain ⟨g1, cap1, ef2⟩ := own_some o1 (by simp)
    subst ef2
    simp only [List.length_cons, List.length_nil, Nat.zero_add, Nat.reduceAdd] at o1 ⊢
    have hlt1 := own_lt o1.1 (g := g1) rfl
    simp only [World.size_alloc] at hlt1
    obtain ⟨d0, dz⟩ := o1.cells (i := 1) rfl
    have dz0 := dz 1
    have o2 := o1.set (i := 1) rfl rfl (y + 1)
    have HO : Hid (NumO _ _ _ _ [x, y + 1, z]) := o2
    have hne : g1 ≠ w.heap.size := by omega
    clear o1 o2 dz
    (try dsimp only)
    repeat (first | go_values | go_skip | go_guarded | go_step | go_upon)
    go_at_call 48
    refine (sat a b d _ _ _ _ _ _ HO.out.at he).mono ?_
    rintro e u2 ⟨rfl, k2⟩
    (try dsimp only)
    repeat (first | go_values | go_skip | go_guarded | go_step | go_upon)
    go_ret
    exact ⟨ret_int (by simp [stepX, stepY, stepZ]), (K1.setNew (by simp; omega) _).trans k2⟩
  · go_enter Try.func54, Try.ntmps54
    repeat (first | (go_at_call 66; refine (splace a b d _ _ _ he h0 h2).mono ?_; rintro e u1 ⟨v1, rfl, o1, k1⟩) | go_values | go_skip | go_guarded | go_step | go_upon)
    rw [px, py, pz] at o1
    have K1 : Kept w u1 := ((But.refl _ _ _).alloc _).trans k1
    have L1 := (Loc.new w [.int .i64 a, .int .i64 b, .int .i64 d, s] 25).kept k1
    have v0 := L1.cell 0 rfl
    have v1' := L1.cell 1 rfl
    have v2 := L1.cell 2 rfl
    have v3 := L1.cell 3 rfl
    obtain ⟨g1, cap1, ef2⟩ := own_some o1 (by simp)
    subst ef2
    simp only [List.length_cons, List.length_nil, Nat.zero_add, Nat.reduceAdd] at o1 ⊢
    have hlt1 := own_lt o1.1 (g := g1) rfl
    simp only [World.size_alloc] at hlt1
    obtain ⟨d0, dz⟩ := o1.cells (i := 2) rfl
    have dz0 := dz 2
    have o2 := o1.set (i := 2) rfl rfl (z + -1)
    have HO : Hid (NumO _ _ _ _ [x, y, z + -1]) := o2
    have hne : g1 ≠ w.heap.size := by omega
    clear o1 o2 dz
    (try dsimp only)
    repeat (first | go_values | go_skip | go_guarded | go_step | go_upon)
    go_at_call 48
    refine (sat a b d _ _ _ _ _ _ HO.out.at he).mono ?_
    rintro e u2 ⟨rfl, k2⟩
    (try dsimp only)
    repeat (first | go_values | go_skip | go_guarded | go_step | go_upon)
    go_ret
    exact ⟨ret_int (by simp [stepX, stepY, stepZ]), (K1.setNew (by simp; omega) _).trans k2⟩
  · go_enter Try.func54, Try.ntmps54
    repeat (first | (go_at_call 66; refine (splace a b d _ _ _ he h0 h2).mono ?_; rintro e u1 ⟨v1, rfl, o1, k1⟩) | go_values | go_skip | go_guarded | go_step | go_upon)
    rw [px, py, pz] at o1
    have K1 : Kept w u1 := ((But.refl _ _ _).alloc _).trans k1
    have L1 := (Loc.new w [.int .i64 a, .int .i64 b, .int .i64 d, s] 25).kept k1
    have v0 := L1.cell 0 rfl
    have v1' := L1.cell 1 rfl
    have v2 := L1.cell 2 rfl
    have v3 := L1.cell 3 rfl
    obtain ⟨g1, cap1, ef2⟩ := own_some o1 (by simp)
    subst ef2
    simp only [List.length_cons, List.length_nil, Nat.zero_add, Nat.reduceAdd] at o1 ⊢
    have hlt1 := own_lt o1.1 (g := g1) rfl
    simp only [World.size_alloc] at hlt1
    obtain ⟨d0, dz⟩ := o1.cells (i := 2) rfl
    have dz0 := dz 2
    have o2 := o1.set (i := 2) rfl rfl (z + 1)
    have HO : Hid (NumO _ _ _ _ [x, y, z + 1]) := o2
    have hne : g1 ≠ w.heap.size := by omega
    clear o1 o2 dz
    (try dsimp only)
    repeat (first | go_values | go_skip | go_guarded | go_step | go_upon)
    go_at_call 48
    refine (sat a b d _ _ _ _ _ _ HO.out.at he).mono ?_
    rintro e u2 ⟨rfl, k2⟩
    (try dsimp only)
    repeat (first | go_values | go_skip | go_guarded | go_step | go_upon)
    go_ret
    exact ⟨ret_int (by simp [stepX, stepY, stepZ]), (K1.setNew (by simp; omega) _).trans k2⟩

end Go.Proofs.Ytnfkgnbhdhpnmaa
