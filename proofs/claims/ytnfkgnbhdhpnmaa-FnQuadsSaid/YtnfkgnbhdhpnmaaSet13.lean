/-
  Another kind in one cell, in the program.
-/
import Derived.Test.YtnfkgnbhdhpnmaaBlockI13
import Derived.Test.YtnfkgnbhdhpnmaaClone13
namespace Go.Proofs.Ytnfkgnbhdhpnmaa
open Go.ChangeShapes Go.WideShapes Go.ChangeAt Go.RowKit

/-- What SetBlock answers. -/
def setA (a b d : Int) (l : List Int) (x y z k : Int) : BlocksD × Bool := if (BlocksP a b d l ∧ Here a b d x y z) ∧ (0 ≤ k ∧ k ≤ 9) then ((a, b, d, l.set (num a b x y z).toNat k), true) else ((0, 0, 0, []), false)

set_option maxRecDepth 100000
set_option linter.unusedVariables false
theorem no_blocks (w : World) (lo hi : Nat) : BlocksO w lo hi (.agg #[.int .i64 0, .int .i64 0, .int .i64 0, .slice none 0 0]) (0, 0, 0, []) := ⟨_, rfl, World.ownsRow_nil _ _ _ _, fun g hg => by cases hg⟩
set_option maxHeartbeats 8000000 in
theorem iset (a b d : Int) (l : List Int) (x y z k : Int) (ao : Option Addr) (cap : Nat) (w : World) (hv : NumAt w (.slice ao l.length cap) l) (hn : l.length ≤ 1048576) :
    Calls Try.prog 24 #[.agg #[.int .i64 a, .int .i64 b, .int .i64 d, .slice ao l.length cap], .int .i64 x, .int .i64 y, .int .i64 z, .int .i64 k] w fun e w' => ∃ v', e = .returned (.tuple #[v', .bool (setA a b d l x y z k).2]) ∧ BlocksO w' w.heap.size w'.heap.size v' (setA a b d l x y z k).1 ∧ Kept w w' := by
  by_cases hg : BlocksP a b d l ∧ Here a b d x y z
  · have ha : cellA a b d l x y z = (num a b x y z, true) := if_pos hg
    by_cases hk : 0 ≤ k ∧ k ≤ 9
    · have dk : decide (0 ≤ k ∧ k ≤ 9) = true := decide_eq_true hk
      rw [show setA a b d l x y z k = ((a, b, d, l.set (num a b x y z).toNat k), true) from if_pos ⟨hg, hk⟩]
      obtain ⟨n0, n1⟩ := num_lt hg.1 hg.2
      obtain ⟨N, hN⟩ : ∃ N, N = num a b x y z := ⟨_, rfl⟩
      rw [← hN] at ha n0 n1 ⊢
      clear hN
      go_enter Try.func24, Try.ntmps24
      repeat (first | (go_at_call 49; refine (icell _ _ _ _ _ _ _ _ _ _ (hv.kept (((But.refl _ _ _).alloc _).alloc _)) (by omega)).mono ?_; rintro e u1 ⟨rfl, k1⟩; rw [ha]; have K1 : Kept w u1 := (((But.refl _ _ _).alloc _).alloc _).trans k1; have L1 := ((Loc.new w [.int .i64 a, .int .i64 b, .int .i64 d, .slice ao l.length cap] 25).alloc (.cells #[.int .i64 0, .int .i64 0, .int .i64 0, .slice none 0 0] 25)).kept k1; have L2 := (Loc.new (w.alloc (.cells #[.int .i64 a, .int .i64 b, .int .i64 d, .slice ao l.length cap] 25)) [.int .i64 0, .int .i64 0, .int .i64 0, .slice none 0 0] 25).kept k1; simp only [World.size_alloc] at L2; have v0 := L1.cell 0 rfl; have v1 := L1.cell 1 rfl; have v2 := L1.cell 2 rfl; have v3 := L1.cell 3 rfl; have r0 := L2.cell 0 rfl; have r1 := L2.cell 1 rfl; have r2 := L2.cell 2 rfl; have r3 := L2.cell 3 rfl; have s0 := L2.frozen 0; have s1 := L2.frozen 1; have s2 := L2.frozen 2; have s3 := L2.frozen 3; have f3 := L1.frozen 3; (try dsimp only)) | (go_at_call 47; refine (ikind _ _).mono ?_; rintro e w3 ⟨rfl, hw3⟩; rw [hw3, dk]; clear hw3; (try dsimp only)) | (go_at_call 50; refine (iclone l _ _ (hv.kept K1) hn).mono ?_; rintro e u2 ⟨v2, rfl, o2, k2⟩; obtain ⟨g2, cap2, ef⟩ := own_some o2 (by omega); subst ef; have K2 := K1.trans k2; have HL := L2.lt; have L1 := L1.kept k2; have L2 := L2.kept k2; clear v0 v1 v2 v3 r0 r1 r2 r3 s0 s1 s2 s3 f3; have v0 := L1.cell 0 rfl; have v1 := L1.cell 1 rfl; have v2 := L1.cell 2 rfl; have v3 := L1.cell 3 rfl; have r0 := L2.cell 0 rfl; have r1 := L2.cell 1 rfl; have r2 := L2.cell 2 rfl; have r3 := L2.cell 3 rfl; have s0 := L2.frozen 0; have s1 := L2.frozen 1; have s2 := L2.frozen 2; have s3 := L2.frozen 3; have f3 := L1.frozen 3; obtain ⟨d0, dz⟩ := o2.cells (getI_some n0 n1); have dz0 := dz N.toNat; have HO : Hid (NumO u2 u1.heap.size u2.heap.size (.slice (some ⟨g2, 0, none⟩) l.length cap2) l) := o2; have hlt := own_lt o2.1 (g := g2) rfl; have ne1 : g2 ≠ w.heap.size := (by omega); have ne2 : g2 ≠ w.heap.size + 1 := (by omega); have ne3 : w.heap.size ≠ g2 := (by omega); have ne4 : w.heap.size + 1 ≠ g2 := (by omega); clear o2 dz; (try dsimp only)) | go_values | go_skip | go_guarded | go_step | go_upon)
      obtain ⟨X, hX⟩ : ∃ X, X = (u2.setCell ⟨w.heap.size, 3, none⟩ (.slice (some ⟨g2, 0, none⟩) l.length cap2)).setCell ⟨g2, N.toNat, none⟩ (.int .i64 k) := ⟨_, rfl⟩
      have LX := ((L2.other (j := 3) (show w.heap.size + 1 ≠ w.heap.size by omega) (.slice (some ⟨g2, 0, none⟩) l.length cap2)).other (j := N.toNat) (show w.heap.size + 1 ≠ g2 by omega) (.int .i64 k))
      rw [← hX] at LX
      rw [← hX]
      have x0 := LX.cell 0 rfl
      have x1 := LX.cell 1 rfl
      have x2 := LX.cell 2 rfl
      have x3 := LX.cell 3 rfl
      clear r0 r1 r2 r3 v0 v1 v2 v3
      refine bodyPost_ret (v := .tuple #[.agg #[.int .i64 a, .int .i64 b, .int .i64 d, .slice (some ⟨g2, 0, none⟩) l.length cap2], .bool true]) (by simp [results, Try.results24, go_sem, x0, x1, x2, x3]) rfl ?_
      rw [hX]
      have e1 := (HO.out.but (((But.refl w.heap.size (w.heap.size + 1) u2)).setCell (p := ⟨w.heap.size, 3, none⟩) (by simp) (by simp) (.slice (some ⟨g2, 0, none⟩) l.length cap2)) (by omega)).set rfl (getI_some n0 n1) k
      refine ⟨_, rfl, ⟨_, rfl, ?_⟩, ?_⟩
      · refine NumO.low (lo := w.heap.size) (hi := u2.heap.size) (NumO.mono (NumO.but (lo' := w.heap.size + 1) (hi' := w.heap.size + 2) e1 ((((((But.refl _ _ _).setCell (by simp) (by simp) _).setCell (by simp) (by simp) _).setCell (by simp) (by simp) _).setCell (by simp) (by simp) _)) (by omega)) (by omega) (Nat.le_refl _))
      · exact (((((K2.setNew (by simp) _).setNew (by simp; omega) _).setNew (by simp) _).setNew (by simp) _).setNew (by simp) _).setNew (by simp) _
    · have dk : decide (0 ≤ k ∧ k ≤ 9) = false := decide_eq_false hk
      rw [show setA a b d l x y z k = ((0, 0, 0, []), false) from if_neg fun h => hk h.2]
      go_enter Try.func24, Try.ntmps24
      repeat (first | (go_at_call 49; refine (icell _ _ _ _ _ _ _ _ _ _ (hv.kept (((But.refl _ _ _).alloc _).alloc _)) (by omega)).mono ?_; rintro e u1 ⟨rfl, k1⟩; rw [ha]; have K1 : Kept w u1 := (((But.refl _ _ _).alloc _).alloc _).trans k1; have L1 := ((Loc.new w [.int .i64 a, .int .i64 b, .int .i64 d, .slice ao l.length cap] 25).alloc (.cells #[.int .i64 0, .int .i64 0, .int .i64 0, .slice none 0 0] 25)).kept k1; have L2 := (Loc.new (w.alloc (.cells #[.int .i64 a, .int .i64 b, .int .i64 d, .slice ao l.length cap] 25)) [.int .i64 0, .int .i64 0, .int .i64 0, .slice none 0 0] 25).kept k1; simp only [World.size_alloc] at L2; have v0 := L1.cell 0 rfl; have v1 := L1.cell 1 rfl; have v2 := L1.cell 2 rfl; have v3 := L1.cell 3 rfl; have r0 := L2.cell 0 rfl; have r1 := L2.cell 1 rfl; have r2 := L2.cell 2 rfl; have r3 := L2.cell 3 rfl; have s0 := L2.frozen 0; have s1 := L2.frozen 1; have s2 := L2.frozen 2; have s3 := L2.frozen 3; have f3 := L1.frozen 3; (try dsimp only)) | (go_at_call 47; refine (ikind _ _).mono ?_; rintro e w3 ⟨rfl, hw3⟩; rw [hw3, dk]; clear hw3; (try dsimp only)) | go_values | go_skip | go_guarded | go_step | go_upon)
      refine bodyPost_ret (v := .tuple #[.agg #[.int .i64 0, .int .i64 0, .int .i64 0, .slice none 0 0], .bool false]) (by simp [results, Try.results24, go_sem, r0, r1, r2, r3]) rfl ?_
      exact ⟨_, rfl, no_blocks _ _ _, (((K1.setNew (by simp) _).setNew (by simp) _).setNew (by simp) _).setNew (by simp) _⟩
  · have ha : cellA a b d l x y z = (0, false) := if_neg hg
    rw [show setA a b d l x y z k = ((0, 0, 0, []), false) from if_neg fun h => hg h.1]
    go_enter Try.func24, Try.ntmps24
    repeat (first | (go_at_call 49; refine (icell _ _ _ _ _ _ _ _ _ _ (hv.kept (((But.refl _ _ _).alloc _).alloc _)) (by omega)).mono ?_; rintro e u1 ⟨rfl, k1⟩; rw [ha]; have K1 : Kept w u1 := (((But.refl _ _ _).alloc _).alloc _).trans k1; have L1 := ((Loc.new w [.int .i64 a, .int .i64 b, .int .i64 d, .slice ao l.length cap] 25).alloc (.cells #[.int .i64 0, .int .i64 0, .int .i64 0, .slice none 0 0] 25)).kept k1; have L2 := (Loc.new (w.alloc (.cells #[.int .i64 a, .int .i64 b, .int .i64 d, .slice ao l.length cap] 25)) [.int .i64 0, .int .i64 0, .int .i64 0, .slice none 0 0] 25).kept k1; simp only [World.size_alloc] at L2; have v0 := L1.cell 0 rfl; have v1 := L1.cell 1 rfl; have v2 := L1.cell 2 rfl; have v3 := L1.cell 3 rfl; have r0 := L2.cell 0 rfl; have r1 := L2.cell 1 rfl; have r2 := L2.cell 2 rfl; have r3 := L2.cell 3 rfl; have s0 := L2.frozen 0; have s1 := L2.frozen 1; have s2 := L2.frozen 2; have s3 := L2.frozen 3; have f3 := L1.frozen 3; (try dsimp only)) | go_values | go_skip | go_guarded | go_step | go_upon)
    refine bodyPost_ret (v := .tuple #[.agg #[.int .i64 0, .int .i64 0, .int .i64 0, .slice none 0 0], .bool false]) (by simp [results, Try.results24, go_sem, r0, r1, r2, r3]) rfl ?_
    exact ⟨_, rfl, no_blocks _ _ _, (((K1.setNew (by simp) _).setNew (by simp) _).setNew (by simp) _).setNew (by simp) _⟩

end Go.Proofs.Ytnfkgnbhdhpnmaa
