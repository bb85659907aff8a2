/-
  What DrawRunFilter draws.
-/
import Derived.Test.YtghmnhohdbombaaFDraw16
import Derived.Test.YtghmnhohdbombaaTDraw16
namespace Go.Proofs.Ytghmnhohdbombaa
open Go.ChangeShapes Go.WideShapes Go.ChangeAt Go.RowKit Ieee

set_option maxRecDepth 100000
set_option linter.unusedVariables false
theorem Code.keep {W W' : World} {ao : Option Addr} {len : Nat} (h : Code W ao len) (k : Kept W W') : Code W' ao len := fun i hi => by
  obtain ⟨ab, off, c, e, hc, hb⟩ := h i hi
  exact ⟨ab, off, c, e, Kept.cell k hc, hb⟩
theorem But.alone {b : Nat} {w W w' : World} (h : But b (b + 1) W w') (k : Kept w W) (hb : w.heap.size ≤ b) : Kept w w' := But.onto k h hb
set_option maxHeartbeats 8000000 in
theorem draw_ok (ao : Option Addr) (len cap : Nat) (w : World) (h : Code w ao len) (hl : len ≤ 1048576) :
    Calls Try.prog 10 #[.slice ao len cap] w fun e w' => ∃ r0 r1 r2 r3 r4 s1 s2 l v, e = .returned (.tuple #[.agg #[.float .f64 r0, .float .f64 r1, .float .f64 r2, .float .f64 r3, .float .f64 r4], .agg #[.float .f64 s1, .float .f64 s2], v]) ∧ (r0 < 18446744073709551616 ∧ r1 < 18446744073709551616 ∧ r2 < 18446744073709551616 ∧ r3 < 18446744073709551616 ∧ r4 < 18446744073709551616 ∧ s1 < 18446744073709551616 ∧ s2 < 18446744073709551616) ∧ (l.length ≤ 65 ∧ ∀ p ∈ l, p < 18446744073709551616) ∧ FltO w' w.heap.size w'.heap.size v l ∧ Kept w w' := by
  have KW : Kept w ((w.alloc (.cells #[.float .f64 0, .float .f64 0, .float .f64 0, .float .f64 0, .float .f64 0] 25)).alloc (.cells #[.float .f64 0, .float .f64 0] 27)) := ((But.refl _ _ w).alloc _).alloc _
  have hC0 := Code.cur (cap := cap) (t := 76) (Code.keep h KW) (by omega)
  go_enter Try.func10, Try.ntmps10
  repeat (first | go_values | go_skip | go_guarded | go_step | go_upon)
  go_at_call 42
  refine (filter_ok _ _ 0 (by simpa using hC0) (by omega)).mono ?_
  rintro e w1 ⟨r0, r1, r2, r3, r4, rfl, ⟨l0, l1, l2, l3, l4⟩, hC1, hg1⟩
  (try simp only [World.size_alloc] at hC1 hg1)
  dsimp only
  repeat (first | go_values | go_skip | go_guarded | go_step | go_upon)
  go_at_call 43
  refine (tame_ok _ _ (0 + 150) hC1 (by omega)).mono ?_
  rintro e w2 ⟨s1, rfl, ls1, hC2, hg2⟩
  dsimp only
  repeat (first | go_values | go_skip | go_guarded | go_step | go_upon)
  go_at_call 43
  refine (tame_ok _ _ (0 + 150 + 30) hC2 (by omega)).mono ?_
  rintro e w3 ⟨s2, rfl, ls2, hC3, hg3⟩
  dsimp only
  repeat (first | go_values | go_skip | go_guarded | go_step | go_upon)
  go_at_call 44
  refine (tames_ok _ _ (0 + 150 + 30 + 30) hC3 (by omega)).mono ?_
  rintro e w4 ⟨l, v, rfl, hlv, ho, hC4, hg4⟩
  obtain ⟨ao5, c5, hfm⟩ := ho.form
  subst hfm
  have G : But (w.heap.size + 1 + 1) (w.heap.size + 1 + 1 + 1) (((w.alloc (.cells #[.float .f64 0, .float .f64 0, .float .f64 0, .float .f64 0, .float .f64 0] 25)).alloc (.cells #[.float .f64 0, .float .f64 0] 27)).alloc (.cells #[.slice ao len cap, .int .i64 0, .int .u64 0] 76)) w4 := ((hg1.trans hg2).trans hg3).trans hg4
  have L1 : Loc w4 w.heap.size [.float .f64 0, .float .f64 0, .float .f64 0, .float .f64 0, .float .f64 0] := (((Loc.new w [.float .f64 0, .float .f64 0, .float .f64 0, .float .f64 0, .float .f64 0] 25).alloc _).alloc _).but G (.inl (by omega))
  have L2 : Loc w4 (w.heap.size + 1) [.float .f64 0, .float .f64 0] := by
    have := ((Loc.new (w.alloc (.cells #[.float .f64 0, .float .f64 0, .float .f64 0, .float .f64 0, .float .f64 0] 25)) [.float .f64 0, .float .f64 0] 27).alloc (.cells #[.slice ao len cap, .int .i64 0, .int .u64 0] 76)).but G (.inl (by simp))
    simpa using this
  have K4 : Kept w w4 := But.onto (KW.alloc _) G (by omega)
  have hs3 : w.heap.size + 1 + 1 + 1 ≤ w3.heap.size := by
    have := ((hg1.trans hg2).trans hg3).size
    simpa using this
  have s4 := hg4.size
  have z0 := L1.cell 0 rfl; have zf0 := L1.frozen 0; have z1 := L1.cell 1 rfl; have zf1 := L1.frozen 1; have z2 := L1.cell 2 rfl; have zf2 := L1.frozen 2; have z3 := L1.cell 3 rfl; have zf3 := L1.frozen 3; have z4 := L1.cell 4 rfl; have zf4 := L1.frozen 4; have y0 := L2.cell 0 rfl; have yf0 := L2.frozen 0; have y1 := L2.cell 1 rfl; have yf1 := L2.frozen 1; skip
  have HO : Hid (FltO w4 w3.heap.size w4.heap.size (.slice ao5 l.length c5) l) := ho
  clear ho hg1 hg2 hg3 hg4 hC1 hC2 hC3 hC4 G L1 L2 hC0 KW h
  dsimp only
  repeat (first | go_values | go_skip | go_guarded | go_step | go_upon)
  refine bodyPost_ret (v := .tuple #[.agg #[.float .f64 r0, .float .f64 r1, .float .f64 r2, .float .f64 r3, .float .f64 r4], .agg #[.float .f64 s1, .float .f64 s2], .slice ao5 l.length c5]) (by simp [results, Try.results10, go_sem, z0, z1, z2, z3, z4, y0, y1]) rfl ?_
  refine ⟨r0, r1, r2, r3, r4, s1, s2, l, _, rfl, ⟨l0, l1, l2, l3, l4, ls1, ls2⟩, hlv, ?_, ?_⟩
  · exact ((HO.out.but (lo' := w.heap.size) (hi' := w.heap.size + 1 + 1) (by (repeat (first | with_reducible exact But.refl _ _ _ | (with_reducible refine But.setCell ?_ (by simp; try omega) (by simp; try omega) _)))) (.inr (by omega))).mono (by omega) (Nat.le_refl _)).low
  · (repeat (first | with_reducible exact K4 | (with_reducible refine But.setNew ?_ (by simp; try omega) _)))

theorem stood27 : Try.prog.stoodInHeld 27 = false := by kernel_rfl
theorem guard27 : Try.prog.eqGuardType Try.prog.depth 27 = false := by kernel_rfl
theorem floatEq_self (x : Nat) (h : nanB x = false) (w : World) (d : Nat) : (Op.equalIn (d + 1) 23 (.float .f64 x) (.float .f64 x)).run Try.prog w = .ok true w := by
  have e := order_ne x
  rw [h] at e
  have e2 : (FloatKind.f64.format.order x x == some Ordering.eq) = true := by simpa using e
  simp [Op.equalIn, run_underlying Try.underlying23, Op.floatEq]
  simpa using e2
theorem mem_neq (x y : Nat) (hx : nanB x = false) (hy : nanB y = false) (w : World) : (binOp .neq 27 (.agg #[.float .f64 x, .float .f64 y]) (.agg #[.float .f64 x, .float .f64 y])).run Try.prog w = .ok (.bool false) w := by
  have hf : Try.prog.underlying 27 = some (.struct (Try.prog.fieldsOf 27)) := by unfold Program.fieldsOf; rw [Try.underlying27]
  rw [run_neq_struct, run_equalIn_struct w 9999 27 _ _ hf stood27]
  have e : (Op.eqFields 9999 #[.float .f64 x, .float .f64 y] #[.float .f64 x, .float .f64 y] (Try.prog.fieldsOf 27).toList).run Try.prog w = .ok true w := by
    unfold Program.fieldsOf
    rw [Try.underlying27]
    have h1 := floatEq_self x hx
    have h2 := floatEq_self y hy
    simp [Op.eqFields, go_sem, floatEq_self x hx, floatEq_self y hy]
  rw [e]
  rfl

end Go.Proofs.Ytghmnhohdbombaa
