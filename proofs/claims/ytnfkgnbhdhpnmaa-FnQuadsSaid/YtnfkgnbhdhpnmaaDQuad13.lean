/-
  What DrawQuadsOf draws.
-/
import Derived.Test.YtnfkgnbhdhpnmaaDBlk13
namespace Go.Proofs.Ytnfkgnbhdhpnmaa
open Go.ChangeShapes Go.WideShapes Go.ChangeAt Go.RowKit

set_option maxRecDepth 100000
set_option linter.unusedVariables false
theorem Code.keep {W W' : World} {ao : Option Addr} {len : Nat} (h : Code W ao len) (k : Kept W W') : Code W' ao len := fun i hi => by
  obtain ⟨ab, off, c, e, hc, hb⟩ := h i hi
  exact ⟨ab, off, c, e, Kept.cell k hc, hb⟩
set_option maxHeartbeats 4000000 in
theorem drawg_ok (ao : Option Addr) (len cap : Nat) (w : World) (h : Code w ao len) (hl : len ≤ 1048576) :
    Calls Try.prog 39 #[.slice ao len cap] w fun e w' => ∃ (x y z : Int) (l : List Int) (v : Value), e = .returned (.agg #[.int .i64 x, .int .i64 y, .int .i64 z, v]) ∧ l.length ≤ 1000 ∧ NumO w' w.heap.size w'.heap.size v l ∧ Kept w w' := by
  have KW : Kept w (w.alloc (.cells #[.int .i64 0, .int .i64 0, .int .i64 0, .slice none 0 0] 25)) := (But.refl _ _ w).alloc _
  have hC0 := Code.cur (cap := cap) (t := 80) (Code.keep h KW) (by omega)
  go_enter Try.func39, Try.ntmps39
  repeat (first | go_values | go_skip | go_guarded | go_step | go_upon)
  go_at_call 60
  refine (blocks_ok _ _ 0 (by simpa using hC0) (by omega)).mono ?_
  rintro e w1 ⟨x, y, z, l, v, rfl, hll, ho, hC1, hg1⟩
  obtain ⟨ao5, c5, hfm⟩ := ho.form
  subst hfm
  (try simp only [World.size_alloc] at hg1 ho)
  have G : But (w.heap.size + 1) (w.heap.size + 1 + 1) ((w.alloc (.cells #[.int .i64 0, .int .i64 0, .int .i64 0, .slice none 0 0] 25)).alloc (.cells #[.slice ao len cap, .int .i64 0, .int .u64 0] 80)) w1 := hg1
  have LR : Loc w1 w.heap.size [.int .i64 0, .int .i64 0, .int .i64 0, .slice none 0 0] := ((Loc.new w [.int .i64 0, .int .i64 0, .int .i64 0, .slice none 0 0] 25).alloc _).but G (.inl (by omega))
  have K1 : Kept w w1 := But.onto (KW.alloc _) G (by omega)
  have HO : Hid (NumO w1 (w.heap.size + 1 + 1) w1.heap.size (.slice ao5 l.length c5) l) := ho
  have u0 := LR.cell 0 rfl
  have u1' := LR.cell 1 rfl
  have u2' := LR.cell 2 rfl
  have u3' := LR.cell 3 rfl
  have uf0 := LR.frozen 0
  have uf1 := LR.frozen 1
  have uf2 := LR.frozen 2
  have uf3 := LR.frozen 3
  clear G LR hC0 hC1 hg1 ho KW h
  dsimp only
  repeat (first | go_values | go_skip | go_guarded | go_step | go_upon)
  refine bodyPost_ret (v := .agg #[.int .i64 x, .int .i64 y, .int .i64 z, .slice ao5 l.length c5]) (by simp [results, Try.results39, go_sem, u0, u1', u2', u3']) rfl ?_
  refine ⟨x, y, z, l, _, rfl, hll, ?_, ?_⟩
  · exact (NumO.but (lo' := w.heap.size) (hi' := w.heap.size + 1) HO.out (by (repeat (first | with_reducible exact But.refl _ _ _ | (with_reducible refine But.setCell ?_ (by simp; try omega) (by simp; try omega) _)))) (.inr (by omega))).mono (by omega) (Nat.le_refl _) |>.low
  · (repeat (first | with_reducible exact K1 | (with_reducible refine But.setNew ?_ (by simp; try omega) _)))
set_option maxHeartbeats 4000000 in
theorem drawq_ok (ao : Option Addr) (len cap : Nat) (w : World) (h : Code w ao len) (hl : len ≤ 1048576) :
    Calls Try.prog 11 #[.slice ao len cap] w fun e w' => ∃ (x y z : Int) (l : List Int) (v : Value), e = .returned (.agg #[.int .i64 x, .int .i64 y, .int .i64 z, v]) ∧ l.length ≤ 1000 ∧ NumO w' w.heap.size w'.heap.size v l ∧ Kept w w' := by
  go_enter Try.func11, Try.ntmps11
  repeat (first | go_values | go_skip | go_guarded | go_step | go_upon)
  go_at_call 39
  refine (drawg_ok ao len cap _ (Code.keep h ((But.refl _ _ w).alloc _)) hl).mono ?_
  rintro e w1 ⟨x, y, z, l, v, rfl, hll, ho, k1⟩
  obtain ⟨ao5, c5, hfm⟩ := ho.form
  (try simp only [World.size_alloc] at ho)
  subst hfm
  have LR : Loc w1 w.heap.size [.int .i64 0, .int .i64 0, .int .i64 0, .slice none 0 0] := (Loc.new w [.int .i64 0, .int .i64 0, .int .i64 0, .slice none 0 0] 25).kept k1
  have K1 : Kept w w1 := ((But.refl _ _ w).alloc _).trans k1
  have HO : Hid (NumO w1 (w.heap.size + 1) w1.heap.size (.slice ao5 l.length c5) l) := ho
  have u0 := LR.cell 0 rfl
  have u1' := LR.cell 1 rfl
  have u2' := LR.cell 2 rfl
  have u3' := LR.cell 3 rfl
  have uf0 := LR.frozen 0
  have uf1 := LR.frozen 1
  have uf2 := LR.frozen 2
  have uf3 := LR.frozen 3
  have HLR : Hid (Loc w1 w.heap.size [.int .i64 0, .int .i64 0, .int .i64 0, .slice none 0 0]) := LR
  clear LR k1 ho h
  dsimp only
  repeat (first | go_values | go_skip | go_guarded | go_step | go_upon)
  refine bodyPost_ret (v := .agg #[.int .i64 x, .int .i64 y, .int .i64 z, .slice ao5 l.length c5]) (by simp [results, Try.results11, go_sem, u0, u1', u2', u3']) rfl ?_
  refine ⟨x, y, z, l, _, rfl, hll, ?_, ?_⟩
  · exact (NumO.but (lo' := w.heap.size) (hi' := w.heap.size + 1) HO.out (by (repeat (first | with_reducible exact But.refl _ _ _ | (with_reducible refine But.setCell ?_ (by simp; try omega) (by simp; try omega) _)))) (.inr (by omega))).mono (by omega) (Nat.le_refl _) |>.low
  · (repeat (first | with_reducible exact K1 | (with_reducible refine But.setNew ?_ (by simp; try omega) _)))

end Go.Proofs.Ytnfkgnbhdhpnmaa
