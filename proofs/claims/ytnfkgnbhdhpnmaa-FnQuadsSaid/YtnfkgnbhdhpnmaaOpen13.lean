/-
  Open faces, on both sides.
-/
import Derived.Test.YtnfkgnbhdhpnmaaBlockI13
namespace Go.Proofs.Ytnfkgnbhdhpnmaa
open Go.ChangeShapes Go.WideShapes Go.ChangeAt Go.RowKit

set_option maxRecDepth 100000
set_option linter.unusedVariables false
theorem bes_lt {a b d : Int} {l : List Int} (hg : BlocksP a b d l) {n : Int} (h0 : 0 ≤ n) (h1 : n < l.length) {wy : Nat} (hw : wy < 6) (ht : there a b d n wy = true) : 0 ≤ bes a b d n wy ∧ bes a b d n wy < l.length := by
  have e := hg.len
  have := bes_in hg.edge h0 (by omega) hw ht
  omega
set_option maxHeartbeats 8000000 in
theorem iair (a b d n : Int) (l : List Int) (ao : Option Addr) (cap : Nat) (w : World) (hv : NumAt w (.slice ao l.length cap) l) (h0 : 0 ≤ n) (h1 : n < l.length) :
    Calls Try.prog 57 #[.agg #[.int .i64 a, .int .i64 b, .int .i64 d, .slice ao l.length cap], .int .i64 n] w fun e w' => e = .returned (.bool (getI l n == 0)) ∧ Kept w w' := by
  obtain ⟨g, o, rfl, c0, gl⟩ := cell_of hv h0 h1
  go_enter Try.func57, Try.ntmps57
  repeat (first | go_values | go_skip | go_guarded | go_step | go_upon)
  go_ret
  exact ⟨rfl, (But.refl _ _ _).alloc _⟩
set_option maxHeartbeats 8000000 in
theorem sopen (a b d n : Int) (wy : Nat) (l : List Int) (ao : Option Addr) (cap : Nat) (w : World) (hv : NumAt w (.slice ao l.length cap) l) (h0 : 0 ≤ n) (h1 : n < l.length) (hg : BlocksP a b d l) (hw : wy < 6) :
    Calls Try.prog 43 #[.agg #[.int .i64 a, .int .i64 b, .int .i64 d, .slice ao l.length cap], .int .i64 n, .int .i64 (wy : Int)] w fun e w' => e = .returned (.bool (openM a b d l n wy)) ∧ Kept w w' := by
  have hx := hg.len
  obtain ⟨g, o, rfl, c0, gl⟩ := cell_of hv h0 h1
  cases q1 : getI l n == 0 with
  | true =>
    rw [show openM a b d l n wy = false by unfold openM; rw [q1]; rfl]
    go_enter Try.func43, Try.ntmps43
    repeat (first | go_values | go_skip | go_guarded | go_step | go_upon)
    go_ret
    exact ⟨rfl, (But.refl _ _ _).alloc _⟩
  | false =>
    cases q2 : there a b d n wy with
    | false =>
      rw [show openM a b d l n wy = true by unfold openM; rw [q1, q2]; rfl]
      have hn : nx a b d n wy = -1 := by unfold nx; rw [q2]; rfl
      go_enter Try.func43, Try.ntmps43
      repeat (first | (go_at_call 54; refine (snext a b d _ _ _ _ hg.edge h0 (by omega) hw).mono ?_; rintro e u1 ⟨rfl, k1⟩; rw [hn]; (try dsimp only)) | go_values | go_skip | go_guarded | go_step | go_upon)
      go_ret
      exact ⟨rfl, ((But.refl _ _ _).alloc _).trans k1⟩
    | true =>
      obtain ⟨b0, b1⟩ := bes_lt hg h0 h1 hw q2
      have hn : nx a b d n wy = bes a b d n wy := by unfold nx; rw [q2]; rfl
      rw [show openM a b d l n wy = (getI l (bes a b d n wy) == 0) by unfold openM; rw [q1, q2]; rfl]
      generalize bes a b d n wy = N at *
      obtain ⟨_, _, ee, c1, _⟩ := cell_of hv b0 b1
      cases ee
      have dn : decide (N < 0) = false := by simp; omega
      go_enter Try.func43, Try.ntmps43
      repeat (first | (go_at_call 54; refine (snext a b d _ _ _ _ hg.edge h0 (by omega) hw).mono ?_; rintro e u1 ⟨rfl, k1⟩; rw [hn]; have K1 : Kept w u1 := ((But.refl _ _ _).alloc _).trans k1; have v3 := ((Loc.new w [.int .i64 a, .int .i64 b, .int .i64 d, .slice (some ⟨g, o, none⟩) l.length cap] 25).kept k1).cell 3 rfl; have c2 := Kept.cell K1 c1; (try dsimp only)) | go_values | go_skip | go_guarded | go_step | go_upon)
      go_ret
      exact ⟨rfl, K1⟩
set_option maxHeartbeats 8000000 in
theorem iopen (a b d n : Int) (wy : Nat) (l : List Int) (ao : Option Addr) (cap : Nat) (w : World) (hv : NumAt w (.slice ao l.length cap) l) (h0 : 0 ≤ n) (h1 : n < l.length) (hg : BlocksP a b d l) (hw : wy < 6) :
    Calls Try.prog 42 #[.agg #[.int .i64 a, .int .i64 b, .int .i64 d, .slice ao l.length cap], .int .i64 n, .int .i64 (wy : Int)] w fun e w' => e = .returned (.bool (openM a b d l n wy)) ∧ Kept w w' := by
  have hx := hg.len
  cases q1 : getI l n == 0 with
  | true =>
    rw [show openM a b d l n wy = false by unfold openM; rw [q1]; rfl]
    go_enter Try.func42, Try.ntmps42
    repeat (first | (go_at_call 65; refine (ibes a b d _ _ _ _ hg.edge h0 (by omega) hw).mono ?_; rintro e u1 ⟨rfl, k1⟩; have K1 : Kept w u1 := ((But.refl _ _ _).alloc _).trans k1; have L1 := (Loc.new w [.int .i64 a, .int .i64 b, .int .i64 d, .slice ao l.length cap] 25).kept k1; have v0 := L1.cell 0 rfl; have v1 := L1.cell 1 rfl; have v2 := L1.cell 2 rfl; have v3 := L1.cell 3 rfl; (try dsimp only)) | (go_at_call 57; (fail_if_success (have hh := k2)); refine (iair a b d n l ao cap _ (hv.kept K1) h0 h1).mono ?_; rintro e u2 ⟨rfl, k2⟩; rw [q1]; have K2 := K1.trans k2; have L2 := L1.kept k2; clear v0 v1 v2 v3; have v0 := L2.cell 0 rfl; have v1 := L2.cell 1 rfl; have v2 := L2.cell 2 rfl; have v3 := L2.cell 3 rfl; (try dsimp only)) | go_values | go_skip | go_guarded | go_step | go_upon)
    go_ret
    exact ⟨rfl, K2⟩
  | false =>
    cases q2 : there a b d n wy with
    | false =>
      rw [show openM a b d l n wy = true by unfold openM; rw [q1, q2]; rfl]
      go_enter Try.func42, Try.ntmps42
      repeat (first | (go_at_call 65; refine (ibes a b d _ _ _ _ hg.edge h0 (by omega) hw).mono ?_; rintro e u1 ⟨rfl, k1⟩; rw [q2]; have K1 : Kept w u1 := ((But.refl _ _ _).alloc _).trans k1; have L1 := (Loc.new w [.int .i64 a, .int .i64 b, .int .i64 d, .slice ao l.length cap] 25).kept k1; have v0 := L1.cell 0 rfl; have v1 := L1.cell 1 rfl; have v2 := L1.cell 2 rfl; have v3 := L1.cell 3 rfl; (try dsimp only)) | (go_at_call 57; (fail_if_success (have hh := k2)); refine (iair a b d n l ao cap _ (hv.kept K1) h0 h1).mono ?_; rintro e u2 ⟨rfl, k2⟩; rw [q1]; have K2 := K1.trans k2; have L2 := L1.kept k2; clear v0 v1 v2 v3; have v0 := L2.cell 0 rfl; have v1 := L2.cell 1 rfl; have v2 := L2.cell 2 rfl; have v3 := L2.cell 3 rfl; (try dsimp only)) | go_values | go_skip | go_guarded | go_step | go_upon)
      go_ret
      exact ⟨rfl, K2⟩
    | true =>
      obtain ⟨b0, b1⟩ := bes_lt hg h0 h1 hw q2
      rw [show openM a b d l n wy = (getI l (bes a b d n wy) == 0) by unfold openM; rw [q1, q2]; rfl]
      go_enter Try.func42, Try.ntmps42
      repeat (first | (go_at_call 65; refine (ibes a b d _ _ _ _ hg.edge h0 (by omega) hw).mono ?_; rintro e u1 ⟨rfl, k1⟩; rw [q2]; have K1 : Kept w u1 := ((But.refl _ _ _).alloc _).trans k1; have L1 := (Loc.new w [.int .i64 a, .int .i64 b, .int .i64 d, .slice ao l.length cap] 25).kept k1; have v0 := L1.cell 0 rfl; have v1 := L1.cell 1 rfl; have v2 := L1.cell 2 rfl; have v3 := L1.cell 3 rfl; (try dsimp only)) | (go_at_call 57; (fail_if_success (have hh := k2)); refine (iair a b d n l ao cap _ (hv.kept K1) h0 h1).mono ?_; rintro e u2 ⟨rfl, k2⟩; rw [q1]; have K2 := K1.trans k2; have L2 := L1.kept k2; clear v0 v1 v2 v3; have v0 := L2.cell 0 rfl; have v1 := L2.cell 1 rfl; have v2 := L2.cell 2 rfl; have v3 := L2.cell 3 rfl; (try dsimp only)) | (go_at_call 57; refine (iair a b d _ l ao cap _ (hv.kept K2) b0 b1).mono ?_; rintro e u3 ⟨rfl, k3⟩; (try dsimp only)) | go_values | go_skip | go_guarded | go_step | go_upon)
      go_ret
      exact ⟨rfl, K2.trans k3⟩

end Go.Proofs.Ytnfkgnbhdhpnmaa
