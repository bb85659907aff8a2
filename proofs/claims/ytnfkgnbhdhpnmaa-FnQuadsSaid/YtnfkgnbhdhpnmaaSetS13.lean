/-
  Another kind in one cell, in the specification.
-/
import Derived.Test.YtnfkgnbhdhpnmaaSet13
import Derived.Deep.RegionHeld3
namespace Go.Proofs.Ytnfkgnbhdhpnmaa
open Go.ChangeShapes Go.WideShapes Go.ChangeAt Go.RowKit

set_option maxRecDepth 100000
set_option linter.unusedVariables false
theorem num_threeB (w : World) (lo B : Nat) (a b d : Int) (hB : w.heap.size = B) (hlo : lo ≤ w.heap.size) : NumO (w.alloc (.cells #[.int .i64 a, .int .i64 b, .int .i64 d] 3)) lo (w.heap.size + 1) (.slice (some ⟨B, 0, none⟩) 3 3) [a, b, d] := by
  subst hB
  exact num_three w lo a b d hlo
set_option maxHeartbeats 8000000 in
theorem sset (a b d : Int) (l : List Int) (x y z k : Int) (ao : Option Addr) (cap : Nat) (w : World) (hv : NumAt w (.slice ao l.length cap) l) (hn : l.length ≤ 1048576) :
    Calls Try.prog 23 #[.agg #[.int .i64 a, .int .i64 b, .int .i64 d, .slice ao l.length cap], .int .i64 x, .int .i64 y, .int .i64 z, .int .i64 k] w fun e w' => ∃ v', e = .returned (.tuple #[v', .bool (setA a b d l x y z k).2]) ∧ BlocksO w' w.heap.size w'.heap.size v' (setA a b d l x y z k).1 ∧ Kept w w' := by
  by_cases hg : BlocksP a b d l ∧ Here a b d x y z
  · have ha : blockA a b d l x y z = getI l (num a b x y z) := if_pos hg
    obtain ⟨n0, n1⟩ := num_lt hg.1 hg.2
    have hb := (getI_in hg.1 n0 n1).1
    have db : decide (getI l (num a b x y z) < 0) = false := by simp; omega
    by_cases hk : 0 ≤ k ∧ k ≤ 9
    · have dk : decide (0 ≤ k ∧ k ≤ 9) = true := decide_eq_true hk
      rw [show setA a b d l x y z k = ((a, b, d, l.set (num a b x y z).toNat k), true) from if_pos ⟨hg, hk⟩]
      have hat : atM a b d x y z = num a b x y z := if_pos hg.2
      obtain ⟨N, hN⟩ : ∃ N, N = num a b x y z := ⟨_, rfl⟩
      rw [← hN] at ha n0 n1 hb db hat ⊢
      clear hN
      obtain ⟨i0, hi0, hz0, hz1, hz2⟩ := info_parts info_num
      go_enter Try.func23, Try.ntmps23
      repeat (first
        | (go_at_call 21; refine (sblock _ _ _ _ _ _ _ _ _ _ (hv.kept (((But.refl _ _ _).alloc _).alloc _)) (by omega)).mono ?_; rintro e u1 ⟨rfl, k1⟩; rw [ha]; have K1 : Kept w u1 := (((But.refl _ _ _).alloc _).alloc _).trans k1; have L1 := ((Loc.new w [.int .i64 a, .int .i64 b, .int .i64 d, .slice ao l.length cap] 25).alloc (.cells #[.int .i64 0, .int .i64 0, .int .i64 0, .slice none 0 0] 25)).kept k1; have L2 := (Loc.new (w.alloc (.cells #[.int .i64 a, .int .i64 b, .int .i64 d, .slice ao l.length cap] 25)) [.int .i64 0, .int .i64 0, .int .i64 0, .slice none 0 0] 25).kept k1; simp only [World.size_alloc] at L2; have v0 := L1.cell 0 rfl; have v1 := L1.cell 1 rfl; have v2 := L1.cell 2 rfl; have v3 := L1.cell 3 rfl; have r0 := L2.cell 0 rfl; have r1 := L2.cell 1 rfl; have r2 := L2.cell 2 rfl; have r3 := L2.cell 3 rfl; have s0 := L2.frozen 0; have s1 := L2.frozen 1; have s2 := L2.frozen 2; have s3 := L2.frozen 3; have f3 := L1.frozen 3; have vl := L1.lt; have rl := L2.lt; (try dsimp only))
        | (go_at_call 45; refine (sIn _ _ _ _).mono ?_; rintro e w3 ⟨rfl, hw3⟩; rw [hw3, dk]; clear hw3; (try dsimp only))
        | (at_builtin
           refine wpList_append_any _ rfl _ _ 23 rfl u1.heap.size 3 i0 (.int .i64 0) 1 8 Try.underlying23 hi0 hz0 hz1 hz2 rfl (by decide) _ _ _ rfl (own_new u1 3) ao l.length cap (l.flatMap numC) rfl (flat_len 1 numC numC_len l) (row_src (hv.kept (K1.alloc _))) (ones l) (by unfold maxLen; omega) (by omega) (by simp) ?_
           intro v' w2 hown hgrow
           rw [Nat.zero_add, List.nil_append] at hown
           have HO : Hid (NumO w2 u1.heap.size w2.heap.size v' l) := RowO.top hown
           obtain ⟨g2, cap2, ef⟩ := own_some HO.out (by omega)
           subst ef
           have k2 : Kept u1 w2 := ((But.refl _ _ u1).alloc (.cells #[] 3)).grown hgrow (by intro x hx; cases hx; simp)
           have K2 := K1.trans k2
           have L1 := L1.kept k2
           have L2 := L2.kept k2
           clear v0 v1 v2 v3 r0 r1 r2 r3 s0 s1 s2 s3 f3 hgrow hown
           have v0 := L1.cell 0 rfl
           have v1 := L1.cell 1 rfl
           have v2 := L1.cell 2 rfl
           have v3 := L1.cell 3 rfl
           have f3 := L1.frozen 3
           have hlt := own_lt HO.out.1 (g := g2) rfl
           have ne1 : g2 ≠ w.heap.size := (by omega)
           have ne3 : w.heap.size ≠ g2 := (by omega))
        | go_values | go_skip | go_guarded | go_step | go_upon)
      obtain ⟨X, hX⟩ : ∃ X, X = w2.setCell ⟨w.heap.size, 3, none⟩ (.slice (some ⟨g2, 0, none⟩) l.length cap2) := ⟨_, rfl⟩
      have LX := L1.set 3 (.slice (some ⟨g2, 0, none⟩) l.length cap2)
      have LR := L2.other (j := 3) (show w.heap.size + 1 ≠ w.heap.size by omega) (.slice (some ⟨g2, 0, none⟩) l.length cap2)
      have OX := HO.out.but (((But.refl w.heap.size (w.heap.size + 1) w2)).setCell (p := ⟨w.heap.size, 3, none⟩) (by simp) (by simp) (.slice (some ⟨g2, 0, none⟩) l.length cap2)) (by omega)
      have KX := K2.setNew (p := ⟨w.heap.size, 3, none⟩) (by simp) (.slice (some ⟨g2, 0, none⟩) l.length cap2)
      rw [← hX] at LX LR OX KX
      rw [← hX]
      clear hX v0 v1 v2 v3 f3 L1 L2 K2 k2 HO
      have v0 := LX.cell 0 rfl
      have v1 := LX.cell 1 rfl
      have v2 := LX.cell 2 rfl
      have v3 := LX.cell 3 rfl
      have xl := LX.lt
      obtain ⟨d0, dz⟩ := OX.cells (getI_some n0 n1)
      have dz0 := dz N.toNat
      have dl := cell_ltG d0
      clear dz
      (try simp only [List.set_cons_succ, List.set_cons_zero] at v3)
      go_region_held3 (fun w' => w'.cell? ⟨w.heap.size, 0, none⟩ = some (.int .i64 a) ∧ w'.cell? ⟨w.heap.size, 1, none⟩ = some (.int .i64 b) ∧ w'.cell? ⟨w.heap.size, 2, none⟩ = some (.int .i64 d) ∧ w'.cell? ⟨w.heap.size, 3, none⟩ = some (.slice (some ⟨g2, 0, none⟩) l.length cap2)) (simp [go_sem, *])
        (first | (go_at_call 48; refine (sat a b d x y z _ _ _ ((num_three X w.heap.size x y z (by omega)).at.kept ((But.refl _ _ _).drew)) hg.1.edge).mono ?_; rintro e y2 ⟨rfl, ky⟩; rw [hat]; have kw : Kept X y2 := (But.trans (by (repeat (first | with_reducible exact But.refl _ _ _ | with_reducible apply But.drewN | with_reducible apply But.drew | with_reducible apply But.alloc))) ky); have hz := kw.size; have v0y := Kept.cell kw v0; have v1y := Kept.cell kw v1; have v2y := Kept.cell kw v2; have v3y := Kept.cell kw v3; have d0y := Kept.cell kw d0; have dzy : y2.frozen? ⟨g2, N.toNat, none⟩ = false := (by rw [kw.frozen_eq _ _ dl]; exact dz0))
               | fail)
      have OY := (OX.kept kw).set rfl (getI_some n0 n1) k
      obtain ⟨Y, hY⟩ : ∃ Y, Y = y2.setCell ⟨g2, N.toNat, none⟩ (.int .i64 k) := ⟨_, rfl⟩
      have LY := (LX.kept kw).other (j := N.toNat) (show w.heap.size ≠ g2 by omega) (.int .i64 k)
      have LQ := (LR.kept kw).other (j := N.toNat) (show w.heap.size + 1 ≠ g2 by omega) (.int .i64 k)
      have KY := (KX.trans kw).setNew (p := ⟨g2, N.toNat, none⟩) (by simp; omega) (.int .i64 k)
      rw [← hY] at OY LY LQ KY
      rw [← hY]
      clear hY v0 v1 v2 v3 v0y v1y v2y v3y d0y dzy d0 dz0 LX LR OX KX kw ky
      have v0 := LY.cell 0 rfl
      have v1 := LY.cell 1 rfl
      have v2 := LY.cell 2 rfl
      have v3 := LY.cell 3 rfl
      have x0 := LQ.cell 0 rfl
      have x1 := LQ.cell 1 rfl
      have x2 := LQ.cell 2 rfl
      have x3 := LQ.cell 3 rfl
      have s0 := LQ.frozen 0
      have s1 := LQ.frozen 1
      have s2 := LQ.frozen 2
      have s3 := LQ.frozen 3
      have HOY : Hid (NumO Y u1.heap.size w2.heap.size (.slice (some ⟨g2, 0, none⟩) l.length cap2) (l.set N.toNat k)) := OY
      clear OY
      repeat (first | go_values | go_skip | go_guarded | go_step | go_upon)
      refine bodyPost_ret (v := .tuple #[.agg #[.int .i64 a, .int .i64 b, .int .i64 d, .slice (some ⟨g2, 0, none⟩) l.length cap2], .bool true]) (by simp [results, Try.results23, go_sem, x0, x1, x2, x3]) rfl ?_
      refine ⟨_, rfl, ⟨_, rfl, ?_⟩, ?_⟩
      · refine NumO.low (lo := w.heap.size) (hi := w2.heap.size) (NumO.mono (NumO.but (lo' := w.heap.size + 1) (hi' := w.heap.size + 2) HOY.out ((((((But.refl _ _ _).setCell (by simp) (by simp) _).setCell (by simp) (by simp) _).setCell (by simp) (by simp) _).setCell (by simp) (by simp) _)) (by omega)) (by omega) (Nat.le_refl _))
      · exact (((KY.setNew (by simp) _).setNew (by simp) _).setNew (by simp) _).setNew (by simp) _
    · have dk : decide (0 ≤ k ∧ k ≤ 9) = false := decide_eq_false hk
      rw [show setA a b d l x y z k = ((0, 0, 0, []), false) from if_neg fun h => hk h.2]
      go_enter Try.func23, Try.ntmps23
      repeat (first | (go_at_call 21; refine (sblock _ _ _ _ _ _ _ _ _ _ (hv.kept (((But.refl _ _ _).alloc _).alloc _)) (by omega)).mono ?_; rintro e u1 ⟨rfl, k1⟩; rw [ha]; have K1 : Kept w u1 := (((But.refl _ _ _).alloc _).alloc _).trans k1; have L1 := ((Loc.new w [.int .i64 a, .int .i64 b, .int .i64 d, .slice ao l.length cap] 25).alloc (.cells #[.int .i64 0, .int .i64 0, .int .i64 0, .slice none 0 0] 25)).kept k1; have L2 := (Loc.new (w.alloc (.cells #[.int .i64 a, .int .i64 b, .int .i64 d, .slice ao l.length cap] 25)) [.int .i64 0, .int .i64 0, .int .i64 0, .slice none 0 0] 25).kept k1; simp only [World.size_alloc] at L2; have v0 := L1.cell 0 rfl; have v1 := L1.cell 1 rfl; have v2 := L1.cell 2 rfl; have v3 := L1.cell 3 rfl; have r0 := L2.cell 0 rfl; have r1 := L2.cell 1 rfl; have r2 := L2.cell 2 rfl; have r3 := L2.cell 3 rfl; have s0 := L2.frozen 0; have s1 := L2.frozen 1; have s2 := L2.frozen 2; have s3 := L2.frozen 3; have f3 := L1.frozen 3; have vl := L1.lt; have rl := L2.lt; (try dsimp only)) | (go_at_call 45; refine (sIn _ _ _ _).mono ?_; rintro e w3 ⟨rfl, hw3⟩; rw [hw3, dk]; clear hw3; (try dsimp only)) | go_values | go_skip | go_guarded | go_step | go_upon)
      refine bodyPost_ret (v := .tuple #[.agg #[.int .i64 0, .int .i64 0, .int .i64 0, .slice none 0 0], .bool false]) (by simp [results, Try.results23, go_sem, r0, r1, r2, r3]) rfl ?_
      exact ⟨_, rfl, no_blocks _ _ _, (((K1.setNew (by simp) _).setNew (by simp) _).setNew (by simp) _).setNew (by simp) _⟩
  · have ha : blockA a b d l x y z = -1 := if_neg hg
    rw [show setA a b d l x y z k = ((0, 0, 0, []), false) from if_neg fun h => hg h.1]
    go_enter Try.func23, Try.ntmps23
    repeat (first | (go_at_call 21; refine (sblock _ _ _ _ _ _ _ _ _ _ (hv.kept (((But.refl _ _ _).alloc _).alloc _)) (by omega)).mono ?_; rintro e u1 ⟨rfl, k1⟩; rw [ha]; have K1 : Kept w u1 := (((But.refl _ _ _).alloc _).alloc _).trans k1; have L1 := ((Loc.new w [.int .i64 a, .int .i64 b, .int .i64 d, .slice ao l.length cap] 25).alloc (.cells #[.int .i64 0, .int .i64 0, .int .i64 0, .slice none 0 0] 25)).kept k1; have L2 := (Loc.new (w.alloc (.cells #[.int .i64 a, .int .i64 b, .int .i64 d, .slice ao l.length cap] 25)) [.int .i64 0, .int .i64 0, .int .i64 0, .slice none 0 0] 25).kept k1; simp only [World.size_alloc] at L2; have v0 := L1.cell 0 rfl; have v1 := L1.cell 1 rfl; have v2 := L1.cell 2 rfl; have v3 := L1.cell 3 rfl; have r0 := L2.cell 0 rfl; have r1 := L2.cell 1 rfl; have r2 := L2.cell 2 rfl; have r3 := L2.cell 3 rfl; have s0 := L2.frozen 0; have s1 := L2.frozen 1; have s2 := L2.frozen 2; have s3 := L2.frozen 3; have f3 := L1.frozen 3; have vl := L1.lt; have rl := L2.lt; (try dsimp only)) | go_values | go_skip | go_guarded | go_step | go_upon)
    refine bodyPost_ret (v := .tuple #[.agg #[.int .i64 0, .int .i64 0, .int .i64 0, .slice none 0 0], .bool false]) (by simp [results, Try.results23, go_sem, r0, r1, r2, r3]) rfl ?_
    exact ⟨_, rfl, no_blocks _ _ _, (((K1.setNew (by simp) _).setNew (by simp) _).setNew (by simp) _).setNew (by simp) _⟩

end Go.Proofs.Ytnfkgnbhdhpnmaa
