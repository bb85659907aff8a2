/-
  Items of keys, in the program.
-/
import Derived.Test.YtoimpkhgdpkhkaaDoorSt20
import Derived.Test.YtoimpkhgdpkhkaaDoorOf20
import Derived.Test.YtoimpkhgdpkhkaaDoorISort20
import Derived.Test.YtoimpkhgdpkhkaaDoorSParts20
namespace Go.Proofs.YtoimpkhgdpkhkaaDoor
open Go.ChangeShapes Go.WideShapes Go.ChangeAt Go.RowKit

set_option maxRecDepth 100000
set_option linter.unusedVariables false
set_option linter.unusedSimpArgs false

theorem RowB.cast {W : World} {B : Nat} {t : TypeId} {o0 o1 o2 o3 o4 o5 o6 o7 o8 : Value} (h : RowB W B t #[o0, o1, o2, o3, o4, o5, o6, o7, o8]) : RowB W B t [o0, o1, o2, o3, o4, o5, o6, o7, o8].toArray := h
theorem box9 {W : World} {B : Nat} (t : TypeId) {o0 o1 o2 o3 o4 o5 o6 o7 o8 : Value} (h : RowB W B t [o0, o1, o2, o3, o4, o5, o6, o7, o8].toArray) (n0 n1 n2 n3 n4 n5 n6 n7 n8 : Value) :
    RowB (((((((((W.setCell ⟨B, 0, none⟩ n0).setCell ⟨B, 1, none⟩ n1).setCell ⟨B, 2, none⟩ n2).setCell ⟨B, 3, none⟩ n3).setCell ⟨B, 4, none⟩ n4).setCell ⟨B, 5, none⟩ n5).setCell ⟨B, 6, none⟩ n6).setCell ⟨B, 7, none⟩ n7).setCell ⟨B, 8, none⟩ n8) B t [n0, n1, n2, n3, n4, n5, n6, n7, n8].toArray ∧ But B (B + 1) W (((((((((W.setCell ⟨B, 0, none⟩ n0).setCell ⟨B, 1, none⟩ n1).setCell ⟨B, 2, none⟩ n2).setCell ⟨B, 3, none⟩ n3).setCell ⟨B, 4, none⟩ n4).setCell ⟨B, 5, none⟩ n5).setCell ⟨B, 6, none⟩ n6).setCell ⟨B, 7, none⟩ n7).setCell ⟨B, 8, none⟩ n8) := by
  refine ⟨?_, ?_⟩
  · exact RowB.set (RowB.set (RowB.set (RowB.set (RowB.set (RowB.set (RowB.set (RowB.set (RowB.set h 0 n0) 1 n1) 2 n2) 3 n3) 4 n4) 5 n5) 6 n6) 7 n7) 8 n8
  · exact But.setCell (But.setCell (But.setCell (But.setCell (But.setCell (But.setCell (But.setCell (But.setCell (But.setCell (But.refl _ _ _) (by simp) (by simp) _) (by simp) (by simp) _) (by simp) (by simp) _) (by simp) (by simp) _) (by simp) (by simp) _) (by simp) (by simp) _) (by simp) (by simp) _) (by simp) (by simp) _) (by simp) (by simp) _
theorem keeps_drew (W : World) : KeepsOthers W W.drew := ⟨Nat.le_refl _, fun _ _ h _ => h⟩
theorem below_drew {n : Nat} {W0 W : World} (h : Below n W0 W) : Below n W0 W.drew := ⟨h.os, h.tape, h.output, h.size, h.block⟩
theorem boxed_other {W : World} {B b j : Nat} {t : TypeId} {v : Value} (h : Boxed W B t v) (hne : B ≠ b) (u : Value) : Boxed (W.setCell ⟨b, j, none⟩ u) B t v := RowB.other (cs := #[v]) h hne u
theorem boxed_drew {W : World} {B : Nat} {t : TypeId} {v : Value} (h : Boxed W B t v) : Boxed W.drew B t v := h
theorem RowB.put {W : World} {B D : Nat} {t : TypeId} {cs : Array Value} (h : RowB W B t cs) (hd : B ≠ D) (o : Obj) : RowB (W.putObj D o) B t cs := (World.putObj_heap_other hd).trans h
theorem kept_end {w W0 W V WF : World} {B D : Nat} (k : Kept w W0) (h : Below B W0 W) (k5 : Kept W V) (b : But B (B + 1) V WF) (hB : w.heap.size = B) (hD : B ≤ D) (o : Obj) : Kept w (WF.putObj D o) :=
  ⟨b.os.trans (k5.os.trans (h.os.trans k.os)), b.out.trans (k5.out.trans (h.output.trans k.out)), by have := b.size; have := k5.size; have := h.size; have := k.size; simp; omega, fun i hi _ => by
    have h1 := k.size
    have h2 := h.size
    have h3 := k5.size
    exact (World.putObj_heap_other (by omega)).trans ((b.block i (by omega) (by omega)).trans ((k5.block i (by omega) (by omega)).trans ((h.block i (by omega)).trans (k.block i hi (by omega)))))⟩
theorem five_of {l : List Int} (h : l.length = 5) : ∃ a0 a1 a2 a3 a4, l = [a0, a1, a2, a3, a4] := by
  match l, h with
  | [a0, a1, a2, a3, a4], _ => exact ⟨a0, a1, a2, a3, a4, rfl⟩
open Go.Shelf
attribute [local go_sem] Oper.semAt_some

set_option maxHeartbeats 100000000 in
theorem ikp_gen (k E : Int) (bv : Bool) (o0 o1 o2 o3 o4 : OrdD) (i0 i1 i2 i3 : Int) (i4 : Bool) (i5 i6 i7 i8 : Int) (RV : Value) (w : World) (hT : Tab w) (hk : -9223372036854775808 ≤ k ∧ k ≤ 9223372036854775807) (hE : bits .and .i64 k 268435456 = E) (hbv : (E != 0) = bv)
    (hOA : ∀ W, Calls Tryd.prog 30 #[.bool bv] W fun e w' => e = .returned (.agg #[.int .i64 (o0.val : Int), .int .i64 (o1.val : Int), .int .i64 (o2.val : Int), .int .i64 (o3.val : Int), .int .i64 (o4.val : Int)]) ∧ Kept W w')
    (hIO : (sF k [(4, o4), (3, o3), (2, o2), (1, o1), (0, o0)]).1 = 0 → ∀ W, Calls Tryd.prog 34 #[.agg (partsC (sF k [(4, o4), (3, o3), (2, o2), (1, o1), (0, o0)]).2).toArray] W fun e w' => e = .returned (.agg #[.int .i64 i0, .int .i64 i1, .int .i64 i2, .int .i64 i3, .bool i4, .int .i64 i5, .int .i64 i6, .int .i64 i7, .int .i64 i8]) ∧ Kept W w')
    (hy : (sF k [(4, o4), (3, o3), (2, o2), (1, o1), (0, o0)]).1 = 0 → RV = .tuple #[.agg #[.int .i64 i0, .int .i64 i1, .int .i64 i2, .int .i64 i3, .bool i4, .int .i64 i5, .int .i64 i6, .int .i64 i7, .int .i64 i8], .bool true]) (hn : ¬ (sF k [(4, o4), (3, o3), (2, o2), (1, o1), (0, o0)]).1 = 0 → RV = .tuple #[.agg #[.int .i64 0, .int .i64 0, .int .i64 0, .int .i64 0, .bool false, .int .i64 0, .int .i64 0, .int .i64 0, .int .i64 0], .bool false]) :
    Calls Tryd.prog 10 #[.int .i64 k] w fun e w' => e = .returned RV ∧ Kept w w' := by
  have OA : Hid (∀ W, Calls Tryd.prog 30 #[.bool bv] W fun e w' => e = .returned (.agg #[.int .i64 (o0.val : Int), .int .i64 (o1.val : Int), .int .i64 (o2.val : Int), .int .i64 (o3.val : Int), .int .i64 (o4.val : Int)]) ∧ Kept W w') := hOA
  have IO : Hid ((sF k [(4, o4), (3, o3), (2, o2), (1, o1), (0, o0)]).1 = 0 → ∀ W, Calls Tryd.prog 34 #[.agg (partsC (sF k [(4, o4), (3, o3), (2, o2), (1, o1), (0, o0)]).2).toArray] W fun e w' => e = .returned (.agg #[.int .i64 i0, .int .i64 i1, .int .i64 i2, .int .i64 i3, .bool i4, .int .i64 i5, .int .i64 i6, .int .i64 i7, .int .i64 i8]) ∧ Kept W w') := hIO
  have HK9 : Hid (-9223372036854775808 ≤ k ∧ k ≤ 9223372036854775807) := hk
  obtain ⟨hk1, hk2⟩ := hk
  have hz0 := hT.size
  have HY : Hid ((sF k [(4, o4), (3, o3), (2, o2), (1, o1), (0, o0)]).1 = 0 → RV = .tuple #[.agg #[.int .i64 i0, .int .i64 i1, .int .i64 i2, .int .i64 i3, .bool i4, .int .i64 i5, .int .i64 i6, .int .i64 i7, .int .i64 i8], .bool true]) := hy
  have HN : Hid (¬ (sF k [(4, o4), (3, o3), (2, o2), (1, o1), (0, o0)]).1 = 0 → RV = .tuple #[.agg #[.int .i64 0, .int .i64 0, .int .i64 0, .int .i64 0, .bool false, .int .i64 0, .int .i64 0, .int .i64 0, .int .i64 0], .bool false]) := hn
  clear hOA hIO hy hn
  refine (callsIn_wide (n := 6)).1 ?_
  refine callsIn_of_wp_marks Tryd.func10 rfl trivial ?_ rfl
  simp only [Tryd.ntmps10, List.size_toArray, List.length_cons, List.length_nil, Nat.reduceAdd, Nat.reduceSub, Array.replicate_succ, Array.replicate_zero, List.push_toArray, List.append_toArray, List.nil_append, List.cons_append]
  gi_wp2_with (first | (refine ⟨trivial, ?_⟩; gi_at_call 30; refine (callsIn_wide.2 (OA.out _)).mono ?_; rintro e w1 ⟨rfl, k1⟩) | (refine ⟨trivial, ?_⟩; gi_at_call 33; refine (back_in _ _ trivial rfl _ _ _ _).mono ?_; rintro e w3 ⟨rfl, hw3⟩; rw [hw3]; clear hw3 w3))
  have bI : RowB w1 w.heap.size 26 #[.int .i64 0, .int .i64 0, .int .i64 0, .int .i64 0, .bool false, .int .i64 0, .int .i64 0, .int .i64 0, .int .i64 0] := (k1.block _ (by simp; omega) (by omega)).trans (RowB.alloc (RowB.alloc (World.alloc_heap_new w (.cells #[.int .i64 0, .int .i64 0, .int .i64 0, .int .i64 0, .bool false, .int .i64 0, .int .i64 0, .int .i64 0, .int .i64 0] 26)) _) _)
  have bP : RowB w1 (w.heap.size + 1) 62 #[.int .i64 0, .int .i64 0, .int .i64 0, .int .i64 0, .int .i64 0] := (k1.block _ (by simp) (by omega)).trans (by have := RowB.alloc (World.alloc_heap_new (w.alloc (.cells #[.int .i64 0, .int .i64 0, .int .i64 0, .int .i64 0, .bool false, .int .i64 0, .int .i64 0, .int .i64 0, .int .i64 0] 26)) (.cells #[.int .i64 0, .int .i64 0, .int .i64 0, .int .i64 0, .int .i64 0] 62)) (.cells #[.int .i64 k] 3); simp only [World.size_alloc] at this; exact this)
  have bR : Boxed w1 (w.heap.size + 1 + 1) 3 (.int .i64 k) := (k1.block _ (by simp) (by omega)).trans (by have := Boxed.new ((w.alloc (.cells #[.int .i64 0, .int .i64 0, .int .i64 0, .int .i64 0, .bool false, .int .i64 0, .int .i64 0, .int .i64 0, .int .i64 0] 26)).alloc (.cells #[.int .i64 0, .int .i64 0, .int .i64 0, .int .i64 0, .int .i64 0] 62)) 3 (.int .i64 k); simp only [World.size_alloc] at this; exact this)
  have bO : RowB (w1.alloc (.cells #[.int .i64 (o0.val : Int), .int .i64 (o1.val : Int), .int .i64 (o2.val : Int), .int .i64 (o3.val : Int), .int .i64 (o4.val : Int)] 62)) w1.heap.size 62 #[.int .i64 (o0.val : Int), .int .i64 (o1.val : Int), .int .i64 (o2.val : Int), .int .i64 (o3.val : Int), .int .i64 (o4.val : Int)] := World.alloc_heap_new w1 _
  have bI := (bI.alloc (.cells #[.int .i64 (o0.val : Int), .int .i64 (o1.val : Int), .int .i64 (o2.val : Int), .int .i64 (o3.val : Int), .int .i64 (o4.val : Int)] 62)).alloc (.cells #[.slice (some ⟨w1.heap.size, 0, none⟩) 5 5] 38)
  have bP := (bP.alloc (.cells #[.int .i64 (o0.val : Int), .int .i64 (o1.val : Int), .int .i64 (o2.val : Int), .int .i64 (o3.val : Int), .int .i64 (o4.val : Int)] 62)).alloc (.cells #[.slice (some ⟨w1.heap.size, 0, none⟩) 5 5] 38)
  have bR := (bR.alloc (.cells #[.int .i64 (o0.val : Int), .int .i64 (o1.val : Int), .int .i64 (o2.val : Int), .int .i64 (o3.val : Int), .int .i64 (o4.val : Int)] 62)).alloc (.cells #[.slice (some ⟨w1.heap.size, 0, none⟩) 5 5] 38)
  have bO := bO.alloc (.cells #[.slice (some ⟨w1.heap.size, 0, none⟩) 5 5] 38)
  have bL := Boxed.new (w1.alloc (.cells #[.int .i64 (o0.val : Int), .int .i64 (o1.val : Int), .int .i64 (o2.val : Int), .int .i64 (o3.val : Int), .int .i64 (o4.val : Int)] 62)) 38 (.slice (some ⟨w1.heap.size, 0, none⟩) 5 5)
  rw [World.size_alloc] at bL
  have hz1 := k1.size
  simp only [World.size_alloc] at hz1
  have K1 : Kept w w1 := ((((But.refl _ _ w).alloc _).alloc _).alloc _).trans k1
  have hKW : Kept w ((w1.alloc (.cells #[.int .i64 (o0.val : Int), .int .i64 (o1.val : Int), .int .i64 (o2.val : Int), .int .i64 (o3.val : Int), .int .i64 (o4.val : Int)] 62)).alloc (.cells #[.slice (some ⟨w1.heap.size, 0, none⟩) 5 5] 38)) := (K1.alloc _).alloc _
  have hsz : ((w1.alloc (.cells #[.int .i64 (o0.val : Int), .int .i64 (o1.val : Int), .int .i64 (o2.val : Int), .int .i64 (o3.val : Int), .int .i64 (o4.val : Int)] 62)).alloc (.cells #[.slice (some ⟨w1.heap.size, 0, none⟩) 5 5] 38)).heap.size = w1.heap.size + 1 + 1 := by simp
  obtain ⟨W0, hW0⟩ : ∃ W0, (w1.alloc (.cells #[.int .i64 (o0.val : Int), .int .i64 (o1.val : Int), .int .i64 (o2.val : Int), .int .i64 (o3.val : Int), .int .i64 (o4.val : Int)] 62)).alloc (.cells #[.slice (some ⟨w1.heap.size, 0, none⟩) 5 5] 38) = W0 := ⟨_, rfl⟩
  rw [hW0] at bI bP bR bO bL hKW hsz ⊢
  clear hW0
  obtain ⟨B, hB⟩ : ∃ B, w.heap.size = B := ⟨_, rfl⟩
  obtain ⟨N, hN⟩ : ∃ N, w1.heap.size = N := ⟨_, rfl⟩
  have hT0 : Tab W0 := hT.kept hKW
  clear k1 K1 OA hE hbv
  rw [hB] at bI bP bR ⊢
  rw [hN] at bO bL hsz ⊢
  rw [hB, hN] at hz1
  have hzz := hz0
  rw [hB] at hzz
  have hB0 : Below B W0 W0 := Below.refl _ _
  have hvw : OrdAt W0 (.slice (some ⟨N, 0, none⟩) 5 5) [o0, o1, o2, o3, o4] := ⟨_, _, rfl, fun j x hx => ⟨N, 0, rfl, by rw [Nat.zero_add]; exact (RowB.loc (cs := [.int .i64 (o0.val : Int), .int .i64 (o1.val : Int), .int .i64 (o2.val : Int), .int .i64 (o3.val : Int), .int .i64 (o4.val : Int)]) bO).cell j hx⟩⟩
  have hrow : ∀ X Y, Bu (B + 1) (B + 1 + 1) (N + 1 + 1) X Y → OrdAt X (.slice (some ⟨N, 0, none⟩) 5 5) [o0, o1, o2, o3, o4] → OrdAt Y (.slice (some ⟨N, 0, none⟩) 5 5) [o0, o1, o2, o3, o4] := by
    rintro A' B' hAB ⟨ao', cap', e, hc⟩
    cases e
    refine ⟨_, _, rfl, fun j x hx => ?_⟩
    obtain ⟨b, o, e2, h1⟩ := hc j x hx
    cases e2
    exact ⟨N, 0, rfl, hAB.cell (a := ⟨N, 0 + j, none⟩) (by dsimp only; omega) (by dsimp only; omega) (by dsimp only; omega) h1⟩
  have hch : Back [o0, o1, o2, o3, o4] (((5 : Nat) : Int) - 1) [(4, o4), (3, o3), (2, o2), (1, o1), (0, o0)] := ⟨4, o4, rfl, rfl, rfl, 3, o3, rfl, rfl, rfl, 2, o2, rfl, rfl, rfl, 1, o1, rfl, rfl, rfl, 0, o0, rfl, rfl, rfl, rfl⟩
  refine wpIn_rangeFunc_ownH rfl (by omega) (gf := 52) (lb := #[.pointer (some ⟨N + 1, 0, none⟩)]) rfl trivial (enters_of Tryd.func52 (by kernel_rfl) rfl)
    (back_stops Fence.wide _ trivial rfl (by omega) (B + 1) (B + 1 + 1) (N + 1 + 1) (N + 1) [o0, o1, o2, o3, o4] (some ⟨N, 0, none⟩) 5 (by simp) [(4, o4), (3, o3), (2, o2), (1, o1), (0, o0)] hch W0 bL.cell hvw (by omega) (by omega) (by omega) hrow)
    Bu.trans (Bu.put (by omega)) (Below.refl _ _) (fun _ => rfl)
    (fun pre W => ((RowB W (B + 1) 62 (partsC (sF k pre).2).toArray ∧ Boxed W (B + 1 + 1) 3 (.int .i64 (sF k pre).1)) ∧ RowB W B 26 #[.int .i64 0, .int .i64 0, .int .i64 0, .int .i64 0, .bool false, .int .i64 0, .int .i64 0, .int .i64 0, .int .i64 0]) ∧ Below B W0 W ∧ N + 1 + 1 ≤ W.heap.size)
    (fun _ _ _ => False)
    (OwnFrom.and (OwnFrom.and (OwnFrom.and (Own.from (rowb_own _ _ (fun pre : List BkE => (partsC (sF k pre).2).toArray)) _) (Own.from (boxed_own _ _ (fun pre : List BkE => Value.int .i64 (sF k pre).1)) _)) (Own.from (rowb_own _ _ _) _)) (OwnFrom.and (ownFrom_below (by omega) (by omega)) (fun _ _ _ _ hs hg _ => Nat.le_trans hs hg.size)))
    (fun _ _ _ _ _ hs _ _ => hs)
    ⟨⟨⟨bP, bR⟩, bI⟩, hB0, by omega⟩
    (fun x a' W => a' = { tmps := #[.int .i64 k, undef, .pointer (some ⟨B, 0, none⟩), .bool false, .pointer (some ⟨B + 1, 0, none⟩), .pointer (some ⟨B + 1 + 1, 0, none⟩), .pointer (some ⟨N, 0, none⟩), undef, .int .i64 (x.2.val : Int), .int .i64 k, .int .i64 k, .int .i64 E, .bool bv, .agg #[.int .i64 (o0.val : Int), .int .i64 (o1.val : Int), .int .i64 (o2.val : Int), .int .i64 (o3.val : Int), .int .i64 (o4.val : Int)], .slice (some ⟨N, 0, none⟩) 5 5, .func (.func 52) #[] #[.pointer (some ⟨N + 1, 0, none⟩)], .int .i64 x.1, .int .i64 (x.2.val : Int), undef, undef, undef, undef, undef, undef, undef, undef, undef, undef, undef, undef, undef, undef, undef, undef, undef, undef, undef], defers := [] })
    (fun x a' _ A' B' row hs hg hr => hs) ?assign ?body ?done ?stop
  case stop =>
    rintro D cd pre W hD hpre h hK
    exact h.elim
  case assign =>
    rintro lp pre ⟨xi, d⟩ W K hI hK
    simp only [mv]
    gi_wp2
    exact hK _ _ (KeepsFrom.refl _ _) ⟨Nat.le_refl _, fun _ _ _ _ => rfl⟩ hI rfl
  case body =>
    rintro lp pre ⟨xi, d⟩ a' W hl ⟨r, hr0⟩ ⟨⟨⟨h1, h2⟩, h3⟩, h7, h8⟩ rfl hlt
    have hok := sF_ok HK9.out pre
    have hst := sF_snoc k pre (xi, d)
    obtain ⟨⟨R, ps⟩, hs0⟩ : ∃ s, sF k pre = s := ⟨_, rfl⟩
    rw [hs0] at h1 h2 hok hst
    have HST : Hid (sF k (pre ++ [(xi, d)]) = stepS (R, ps) (xi, d)) := hst
    obtain ⟨⟨hr1, hr2⟩, hln⟩ := hok
    dsimp only at hr1 hr2 hln h1 h2
    obtain ⟨a0, a1, a2, a3, a4, rfl⟩ := five_of hln
    have tb : ∀ i, i < 5 → W.cell? ⟨0, i, none⟩ = some (.int .i64 (tab i)) := fun i hi => (World.cell?_of_block (h7.block 0 (by omega))).trans (hT0 i hi)
    have t0 := tb 0 (by decide)
    have t1 := tb 1 (by decide)
    have t2 := tb 2 (by decide)
    have t3 := tb 3 (by decide)
    have t4 := tb 4 (by decide)
    simp only [tab, zs5, List.getD_cons_zero, List.getD_cons_succ] at t0 t1 t2 t3 t4
    have HP : Hid (RowB W (B + 1) 62 [.int .i64 a0, .int .i64 a1, .int .i64 a2, .int .i64 a3, .int .i64 a4].toArray) := h1
    have HR : Hid (Boxed W (B + 1 + 1) 3 (.int .i64 R)) := h2
    have HI : Hid (RowB W B 26 #[.int .i64 0, .int .i64 0, .int .i64 0, .int .i64 0, .bool false, .int .i64 0, .int .i64 0, .int .i64 0, .int .i64 0]) := h3
    have H7 : Hid (Below B W0 W) := h7
    have c0 := (RowB.loc HP.out).cell 0 rfl
    have c1 := (RowB.loc HP.out).cell 1 rfl
    have c2 := (RowB.loc HP.out).cell 2 rfl
    have c3 := (RowB.loc HP.out).cell 3 rfl
    have c4 := (RowB.loc HP.out).cell 4 rfl
    have cf0 := (RowB.loc HP.out).frozen 0
    have cf1 := (RowB.loc HP.out).frozen 1
    have cf2 := (RowB.loc HP.out).frozen 2
    have cf3 := (RowB.loc HP.out).frozen 3
    have cf4 := (RowB.loc HP.out).frozen 4
    have r0 := HR.out.cell
    have rf := HR.out.frozen
    have hlp := HP.out.lt
    have hlr := HR.out.lt
    clear tb h1 h2 h3 h7 hst hs0 hr0 hvw hrow hch bI bP bR bO bL hKW hB0 hT hT0
    rcases fin5 d with rfl | rfl | rfl | rfl | rfl
    · have ea : bits .and .i64 R 7 = R % 8 := and_modz 3 R 7 8 rfl rfl (by omega)
      have wr1 : IntKind.i64.wrap 8 = 8 := by decide
      have wr2 : IntKind.i64.wrap (8 - 1) = 7 := by decide
      have wr4 : IntKind.i64.wrap 7 = 7 := by decide
      have eq' : -9223372036854775808 ≤ R / 8 ∧ R / 8 ≤ 9223372036854775807 := by omega
      have wr3 : IntKind.i64.wrap (R / 8) = R / 8 := IntWalk.i64_in _ (by omega)
      try simp only [show ((((0 : OrdD).val : Nat)) : Int) = 0 from rfl]
      gi_wp2
      refine wpIn_mono (Q := fun e a' w' => e = .normal ∧ a' = { tmps := #[.int .i64 k, undef, .pointer (some ⟨B, 0, none⟩), .bool false, .pointer (some ⟨B + 1, 0, none⟩), .pointer (some ⟨B + 1 + 1, 0, none⟩), .pointer (some ⟨N, 0, none⟩), undef, .int .i64 0, .int .i64 k, .int .i64 k, .int .i64 E, .bool bv, .agg #[.int .i64 (o0.val : Int), .int .i64 (o1.val : Int), .int .i64 (o2.val : Int), .int .i64 (o3.val : Int), .int .i64 (o4.val : Int)], .slice (some ⟨N, 0, none⟩) 5 5, .func (.func 52) #[] #[.pointer (some ⟨N + 1, 0, none⟩)], .int .i64 xi, .int .i64 0, .int .i64 0, .int .i64 R, .int .i64 0, .pointer (some ⟨0, 0, none⟩), .int .i64 3, .int .i64 8, .int .i64 7, .int .i64 (R % 8), .pointer (some ⟨B + 1, 0, none⟩), undef, undef, undef, undef, undef, undef, undef, undef, undef, undef], defers := [] } ∧ w' = (W.setCell ⟨B + 1, 0, none⟩ (.int .i64 (R % 8))).drew) ?_ ?_
      · gi_region
        all_goals (refine ⟨rfl, ?_, ?_⟩ <;> first | (simp only [wr1, wr2, wr4, ea]; done) | rfl)
      rintro e a' w' ⟨rfl, rfl, rfl⟩
      have t0' : ((W.setCell ⟨B + 1, 0, none⟩ (.int .i64 (R % 8))).drew).cell? ⟨0, 0, none⟩ = some (.int .i64 3) := by
        show (W.setCell ⟨B + 1, 0, none⟩ (.int .i64 (R % 8))).cell? ⟨0, 0, none⟩ = _
        rw [World.cell?_of_block (Below.heap_setCell _ _ _ 0 (by simp))]
        exact t0
      have e1' : ((W.setCell ⟨B + 1, 0, none⟩ (.int .i64 (R % 8))).drew).cell? ⟨B + 1 + 1, 0, none⟩ = some (.int .i64 R) := (boxed_drew (boxed_other (j := 0) HR.out (by omega) (.int .i64 (R % 8)))).cell
      have f1' : ((W.setCell ⟨B + 1, 0, none⟩ (.int .i64 (R % 8))).drew).frozen? ⟨B + 1 + 1, 0, none⟩ = false := (boxed_drew (boxed_other (j := 0) HR.out (by omega) (.int .i64 (R % 8)))).frozen
      clear t0 t1 t2 t3 t4 c0 c1 c2 c3 c4 cf0 cf1 cf2 cf3 cf4 r0 rf
      obtain ⟨V, hV⟩ : ∃ V, (W.setCell ⟨B + 1, 0, none⟩ (.int .i64 (R % 8))).drew = V := ⟨_, rfl⟩
      rw [hV] at t0' e1' f1' ⊢
      gi_wp2
      refine wpIn_mono (Q := fun e a' w' => e = .normal ∧ a' = { tmps := #[.int .i64 k, undef, .pointer (some ⟨B, 0, none⟩), .bool false, .pointer (some ⟨B + 1, 0, none⟩), .pointer (some ⟨B + 1 + 1, 0, none⟩), .pointer (some ⟨N, 0, none⟩), undef, .int .i64 0, .int .i64 k, .int .i64 k, .int .i64 E, .bool bv, .agg #[.int .i64 (o0.val : Int), .int .i64 (o1.val : Int), .int .i64 (o2.val : Int), .int .i64 (o3.val : Int), .int .i64 (o4.val : Int)], .slice (some ⟨N, 0, none⟩) 5 5, .func (.func 52) #[] #[.pointer (some ⟨N + 1, 0, none⟩)], .int .i64 xi, .int .i64 0, .int .i64 0, .int .i64 R, .int .i64 0, .pointer (some ⟨0, 0, none⟩), .int .i64 3, .int .i64 8, .int .i64 7, .int .i64 (R % 8), .pointer (some ⟨B + 1, 0, none⟩), .int .i64 R, .int .i64 0, .pointer (some ⟨0, 0, none⟩), .int .i64 3, .int .i64 (R / 8), undef, undef, undef, undef, undef], defers := [] } ∧ w' = (V.setCell ⟨B + 1 + 1, 0, none⟩ (.int .i64 (R / 8))).drew) ?_ ?_
      · gi_region
        all_goals (refine ⟨rfl, ?_, ?_⟩ <;> first | (simp only [wr1, wr2, wr4, ea, wr3]; done) | rfl)
      rintro e a' w' ⟨rfl, rfl, rfl⟩
      subst hV
      gi_wp2
      refine ⟨((KeepsOthers.setCell W ⟨B + 1, 0, none⟩ (.int .i64 (R % 8))).trans ((keeps_drew _).trans ((KeepsOthers.setCell _ ⟨B + 1 + 1, 0, none⟩ _).trans (keeps_drew _)))).from _, ⟨by simp, fun b hb h0 h1 => (Below.heap_setCell _ _ _ b (by dsimp only; omega)).trans (Below.heap_setCell _ _ _ b (by dsimp only; omega))⟩, ⟨⟨?_, ?_⟩, ?_⟩, ?_, by simp; omega⟩
      · rw [HST.out]
        exact RowB.other (RowB.set HP.out 0 (.int .i64 (R % 8))) (by omega) _
      · rw [HST.out]
        exact boxed_drew ((boxed_drew (boxed_other (j := 0) HR.out (by omega) (.int .i64 (R % 8)))).set (.int .i64 (R / 8)))
      · exact RowB.other (RowB.other HI.out (by omega) _) (by omega) _
      · exact below_drew (Below.setCell (p := ⟨B + 1 + 1, 0, none⟩) (below_drew (Below.setCell (p := ⟨B + 1, 0, none⟩) H7.out (by dsimp only; omega) _)) (by dsimp only; omega) _)
    · have ea : bits .and .i64 R 1 = R % 2 := and_modz 1 R 1 2 rfl rfl (by omega)
      have wr1 : IntKind.i64.wrap 2 = 2 := by decide
      have wr2 : IntKind.i64.wrap (2 - 1) = 1 := by decide
      have wr4 : IntKind.i64.wrap 1 = 1 := by decide
      have eq' : -9223372036854775808 ≤ R / 2 ∧ R / 2 ≤ 9223372036854775807 := by omega
      have wr3 : IntKind.i64.wrap (R / 2) = R / 2 := IntWalk.i64_in _ (by omega)
      try simp only [show ((((1 : OrdD).val : Nat)) : Int) = 1 from rfl]
      gi_wp2
      refine wpIn_mono (Q := fun e a' w' => e = .normal ∧ a' = { tmps := #[.int .i64 k, undef, .pointer (some ⟨B, 0, none⟩), .bool false, .pointer (some ⟨B + 1, 0, none⟩), .pointer (some ⟨B + 1 + 1, 0, none⟩), .pointer (some ⟨N, 0, none⟩), undef, .int .i64 1, .int .i64 k, .int .i64 k, .int .i64 E, .bool bv, .agg #[.int .i64 (o0.val : Int), .int .i64 (o1.val : Int), .int .i64 (o2.val : Int), .int .i64 (o3.val : Int), .int .i64 (o4.val : Int)], .slice (some ⟨N, 0, none⟩) 5 5, .func (.func 52) #[] #[.pointer (some ⟨N + 1, 0, none⟩)], .int .i64 xi, .int .i64 1, .int .i64 1, .int .i64 R, .int .i64 1, .pointer (some ⟨0, 1, none⟩), .int .i64 1, .int .i64 2, .int .i64 1, .int .i64 (R % 2), .pointer (some ⟨B + 1, 1, none⟩), undef, undef, undef, undef, undef, undef, undef, undef, undef, undef], defers := [] } ∧ w' = (W.setCell ⟨B + 1, 1, none⟩ (.int .i64 (R % 2))).drew) ?_ ?_
      · gi_region
        all_goals (refine ⟨rfl, ?_, ?_⟩ <;> first | (simp only [wr1, wr2, wr4, ea]; done) | rfl)
      rintro e a' w' ⟨rfl, rfl, rfl⟩
      have t1' : ((W.setCell ⟨B + 1, 1, none⟩ (.int .i64 (R % 2))).drew).cell? ⟨0, 1, none⟩ = some (.int .i64 1) := by
        show (W.setCell ⟨B + 1, 1, none⟩ (.int .i64 (R % 2))).cell? ⟨0, 1, none⟩ = _
        rw [World.cell?_of_block (Below.heap_setCell _ _ _ 0 (by simp))]
        exact t1
      have e1' : ((W.setCell ⟨B + 1, 1, none⟩ (.int .i64 (R % 2))).drew).cell? ⟨B + 1 + 1, 0, none⟩ = some (.int .i64 R) := (boxed_drew (boxed_other (j := 1) HR.out (by omega) (.int .i64 (R % 2)))).cell
      have f1' : ((W.setCell ⟨B + 1, 1, none⟩ (.int .i64 (R % 2))).drew).frozen? ⟨B + 1 + 1, 0, none⟩ = false := (boxed_drew (boxed_other (j := 1) HR.out (by omega) (.int .i64 (R % 2)))).frozen
      clear t0 t1 t2 t3 t4 c0 c1 c2 c3 c4 cf0 cf1 cf2 cf3 cf4 r0 rf
      obtain ⟨V, hV⟩ : ∃ V, (W.setCell ⟨B + 1, 1, none⟩ (.int .i64 (R % 2))).drew = V := ⟨_, rfl⟩
      rw [hV] at t1' e1' f1' ⊢
      gi_wp2
      refine wpIn_mono (Q := fun e a' w' => e = .normal ∧ a' = { tmps := #[.int .i64 k, undef, .pointer (some ⟨B, 0, none⟩), .bool false, .pointer (some ⟨B + 1, 0, none⟩), .pointer (some ⟨B + 1 + 1, 0, none⟩), .pointer (some ⟨N, 0, none⟩), undef, .int .i64 1, .int .i64 k, .int .i64 k, .int .i64 E, .bool bv, .agg #[.int .i64 (o0.val : Int), .int .i64 (o1.val : Int), .int .i64 (o2.val : Int), .int .i64 (o3.val : Int), .int .i64 (o4.val : Int)], .slice (some ⟨N, 0, none⟩) 5 5, .func (.func 52) #[] #[.pointer (some ⟨N + 1, 0, none⟩)], .int .i64 xi, .int .i64 1, .int .i64 1, .int .i64 R, .int .i64 1, .pointer (some ⟨0, 1, none⟩), .int .i64 1, .int .i64 2, .int .i64 1, .int .i64 (R % 2), .pointer (some ⟨B + 1, 1, none⟩), .int .i64 R, .int .i64 1, .pointer (some ⟨0, 1, none⟩), .int .i64 1, .int .i64 (R / 2), undef, undef, undef, undef, undef], defers := [] } ∧ w' = (V.setCell ⟨B + 1 + 1, 0, none⟩ (.int .i64 (R / 2))).drew) ?_ ?_
      · gi_region
        all_goals (refine ⟨rfl, ?_, ?_⟩ <;> first | (simp only [wr1, wr2, wr4, ea, wr3]; done) | rfl)
      rintro e a' w' ⟨rfl, rfl, rfl⟩
      subst hV
      gi_wp2
      refine ⟨((KeepsOthers.setCell W ⟨B + 1, 1, none⟩ (.int .i64 (R % 2))).trans ((keeps_drew _).trans ((KeepsOthers.setCell _ ⟨B + 1 + 1, 0, none⟩ _).trans (keeps_drew _)))).from _, ⟨by simp, fun b hb h0 h1 => (Below.heap_setCell _ _ _ b (by dsimp only; omega)).trans (Below.heap_setCell _ _ _ b (by dsimp only; omega))⟩, ⟨⟨?_, ?_⟩, ?_⟩, ?_, by simp; omega⟩
      · rw [HST.out]
        exact RowB.other (RowB.set HP.out 1 (.int .i64 (R % 2))) (by omega) _
      · rw [HST.out]
        exact boxed_drew ((boxed_drew (boxed_other (j := 1) HR.out (by omega) (.int .i64 (R % 2)))).set (.int .i64 (R / 2)))
      · exact RowB.other (RowB.other HI.out (by omega) _) (by omega) _
      · exact below_drew (Below.setCell (p := ⟨B + 1 + 1, 0, none⟩) (below_drew (Below.setCell (p := ⟨B + 1, 1, none⟩) H7.out (by dsimp only; omega) _)) (by dsimp only; omega) _)
    · have ea : bits .and .i64 R 255 = R % 256 := and_modz 8 R 255 256 rfl rfl (by omega)
      have wr1 : IntKind.i64.wrap 256 = 256 := by decide
      have wr2 : IntKind.i64.wrap (256 - 1) = 255 := by decide
      have wr4 : IntKind.i64.wrap 255 = 255 := by decide
      have eq' : -9223372036854775808 ≤ R / 256 ∧ R / 256 ≤ 9223372036854775807 := by omega
      have wr3 : IntKind.i64.wrap (R / 256) = R / 256 := IntWalk.i64_in _ (by omega)
      try simp only [show ((((2 : OrdD).val : Nat)) : Int) = 2 from rfl]
      gi_wp2
      refine wpIn_mono (Q := fun e a' w' => e = .normal ∧ a' = { tmps := #[.int .i64 k, undef, .pointer (some ⟨B, 0, none⟩), .bool false, .pointer (some ⟨B + 1, 0, none⟩), .pointer (some ⟨B + 1 + 1, 0, none⟩), .pointer (some ⟨N, 0, none⟩), undef, .int .i64 2, .int .i64 k, .int .i64 k, .int .i64 E, .bool bv, .agg #[.int .i64 (o0.val : Int), .int .i64 (o1.val : Int), .int .i64 (o2.val : Int), .int .i64 (o3.val : Int), .int .i64 (o4.val : Int)], .slice (some ⟨N, 0, none⟩) 5 5, .func (.func 52) #[] #[.pointer (some ⟨N + 1, 0, none⟩)], .int .i64 xi, .int .i64 2, .int .i64 2, .int .i64 R, .int .i64 2, .pointer (some ⟨0, 2, none⟩), .int .i64 8, .int .i64 256, .int .i64 255, .int .i64 (R % 256), .pointer (some ⟨B + 1, 2, none⟩), undef, undef, undef, undef, undef, undef, undef, undef, undef, undef], defers := [] } ∧ w' = (W.setCell ⟨B + 1, 2, none⟩ (.int .i64 (R % 256))).drew) ?_ ?_
      · gi_region
        all_goals (refine ⟨rfl, ?_, ?_⟩ <;> first | (simp only [wr1, wr2, wr4, ea]; done) | rfl)
      rintro e a' w' ⟨rfl, rfl, rfl⟩
      have t2' : ((W.setCell ⟨B + 1, 2, none⟩ (.int .i64 (R % 256))).drew).cell? ⟨0, 2, none⟩ = some (.int .i64 8) := by
        show (W.setCell ⟨B + 1, 2, none⟩ (.int .i64 (R % 256))).cell? ⟨0, 2, none⟩ = _
        rw [World.cell?_of_block (Below.heap_setCell _ _ _ 0 (by simp))]
        exact t2
      have e1' : ((W.setCell ⟨B + 1, 2, none⟩ (.int .i64 (R % 256))).drew).cell? ⟨B + 1 + 1, 0, none⟩ = some (.int .i64 R) := (boxed_drew (boxed_other (j := 2) HR.out (by omega) (.int .i64 (R % 256)))).cell
      have f1' : ((W.setCell ⟨B + 1, 2, none⟩ (.int .i64 (R % 256))).drew).frozen? ⟨B + 1 + 1, 0, none⟩ = false := (boxed_drew (boxed_other (j := 2) HR.out (by omega) (.int .i64 (R % 256)))).frozen
      clear t0 t1 t2 t3 t4 c0 c1 c2 c3 c4 cf0 cf1 cf2 cf3 cf4 r0 rf
      obtain ⟨V, hV⟩ : ∃ V, (W.setCell ⟨B + 1, 2, none⟩ (.int .i64 (R % 256))).drew = V := ⟨_, rfl⟩
      rw [hV] at t2' e1' f1' ⊢
      gi_wp2
      refine wpIn_mono (Q := fun e a' w' => e = .normal ∧ a' = { tmps := #[.int .i64 k, undef, .pointer (some ⟨B, 0, none⟩), .bool false, .pointer (some ⟨B + 1, 0, none⟩), .pointer (some ⟨B + 1 + 1, 0, none⟩), .pointer (some ⟨N, 0, none⟩), undef, .int .i64 2, .int .i64 k, .int .i64 k, .int .i64 E, .bool bv, .agg #[.int .i64 (o0.val : Int), .int .i64 (o1.val : Int), .int .i64 (o2.val : Int), .int .i64 (o3.val : Int), .int .i64 (o4.val : Int)], .slice (some ⟨N, 0, none⟩) 5 5, .func (.func 52) #[] #[.pointer (some ⟨N + 1, 0, none⟩)], .int .i64 xi, .int .i64 2, .int .i64 2, .int .i64 R, .int .i64 2, .pointer (some ⟨0, 2, none⟩), .int .i64 8, .int .i64 256, .int .i64 255, .int .i64 (R % 256), .pointer (some ⟨B + 1, 2, none⟩), .int .i64 R, .int .i64 2, .pointer (some ⟨0, 2, none⟩), .int .i64 8, .int .i64 (R / 256), undef, undef, undef, undef, undef], defers := [] } ∧ w' = (V.setCell ⟨B + 1 + 1, 0, none⟩ (.int .i64 (R / 256))).drew) ?_ ?_
      · gi_region
        all_goals (refine ⟨rfl, ?_, ?_⟩ <;> first | (simp only [wr1, wr2, wr4, ea, wr3]; done) | rfl)
      rintro e a' w' ⟨rfl, rfl, rfl⟩
      subst hV
      gi_wp2
      refine ⟨((KeepsOthers.setCell W ⟨B + 1, 2, none⟩ (.int .i64 (R % 256))).trans ((keeps_drew _).trans ((KeepsOthers.setCell _ ⟨B + 1 + 1, 0, none⟩ _).trans (keeps_drew _)))).from _, ⟨by simp, fun b hb h0 h1 => (Below.heap_setCell _ _ _ b (by dsimp only; omega)).trans (Below.heap_setCell _ _ _ b (by dsimp only; omega))⟩, ⟨⟨?_, ?_⟩, ?_⟩, ?_, by simp; omega⟩
      · rw [HST.out]
        exact RowB.other (RowB.set HP.out 2 (.int .i64 (R % 256))) (by omega) _
      · rw [HST.out]
        exact boxed_drew ((boxed_drew (boxed_other (j := 2) HR.out (by omega) (.int .i64 (R % 256)))).set (.int .i64 (R / 256)))
      · exact RowB.other (RowB.other HI.out (by omega) _) (by omega) _
      · exact below_drew (Below.setCell (p := ⟨B + 1 + 1, 0, none⟩) (below_drew (Below.setCell (p := ⟨B + 1, 2, none⟩) H7.out (by dsimp only; omega) _)) (by dsimp only; omega) _)
    · have ea : bits .and .i64 R 255 = R % 256 := and_modz 8 R 255 256 rfl rfl (by omega)
      have wr1 : IntKind.i64.wrap 256 = 256 := by decide
      have wr2 : IntKind.i64.wrap (256 - 1) = 255 := by decide
      have wr4 : IntKind.i64.wrap 255 = 255 := by decide
      have eq' : -9223372036854775808 ≤ R / 256 ∧ R / 256 ≤ 9223372036854775807 := by omega
      have wr3 : IntKind.i64.wrap (R / 256) = R / 256 := IntWalk.i64_in _ (by omega)
      try simp only [show ((((3 : OrdD).val : Nat)) : Int) = 3 from rfl]
      gi_wp2
      refine wpIn_mono (Q := fun e a' w' => e = .normal ∧ a' = { tmps := #[.int .i64 k, undef, .pointer (some ⟨B, 0, none⟩), .bool false, .pointer (some ⟨B + 1, 0, none⟩), .pointer (some ⟨B + 1 + 1, 0, none⟩), .pointer (some ⟨N, 0, none⟩), undef, .int .i64 3, .int .i64 k, .int .i64 k, .int .i64 E, .bool bv, .agg #[.int .i64 (o0.val : Int), .int .i64 (o1.val : Int), .int .i64 (o2.val : Int), .int .i64 (o3.val : Int), .int .i64 (o4.val : Int)], .slice (some ⟨N, 0, none⟩) 5 5, .func (.func 52) #[] #[.pointer (some ⟨N + 1, 0, none⟩)], .int .i64 xi, .int .i64 3, .int .i64 3, .int .i64 R, .int .i64 3, .pointer (some ⟨0, 3, none⟩), .int .i64 8, .int .i64 256, .int .i64 255, .int .i64 (R % 256), .pointer (some ⟨B + 1, 3, none⟩), undef, undef, undef, undef, undef, undef, undef, undef, undef, undef], defers := [] } ∧ w' = (W.setCell ⟨B + 1, 3, none⟩ (.int .i64 (R % 256))).drew) ?_ ?_
      · gi_region
        all_goals (refine ⟨rfl, ?_, ?_⟩ <;> first | (simp only [wr1, wr2, wr4, ea]; done) | rfl)
      rintro e a' w' ⟨rfl, rfl, rfl⟩
      have t3' : ((W.setCell ⟨B + 1, 3, none⟩ (.int .i64 (R % 256))).drew).cell? ⟨0, 3, none⟩ = some (.int .i64 8) := by
        show (W.setCell ⟨B + 1, 3, none⟩ (.int .i64 (R % 256))).cell? ⟨0, 3, none⟩ = _
        rw [World.cell?_of_block (Below.heap_setCell _ _ _ 0 (by simp))]
        exact t3
      have e1' : ((W.setCell ⟨B + 1, 3, none⟩ (.int .i64 (R % 256))).drew).cell? ⟨B + 1 + 1, 0, none⟩ = some (.int .i64 R) := (boxed_drew (boxed_other (j := 3) HR.out (by omega) (.int .i64 (R % 256)))).cell
      have f1' : ((W.setCell ⟨B + 1, 3, none⟩ (.int .i64 (R % 256))).drew).frozen? ⟨B + 1 + 1, 0, none⟩ = false := (boxed_drew (boxed_other (j := 3) HR.out (by omega) (.int .i64 (R % 256)))).frozen
      clear t0 t1 t2 t3 t4 c0 c1 c2 c3 c4 cf0 cf1 cf2 cf3 cf4 r0 rf
      obtain ⟨V, hV⟩ : ∃ V, (W.setCell ⟨B + 1, 3, none⟩ (.int .i64 (R % 256))).drew = V := ⟨_, rfl⟩
      rw [hV] at t3' e1' f1' ⊢
      gi_wp2
      refine wpIn_mono (Q := fun e a' w' => e = .normal ∧ a' = { tmps := #[.int .i64 k, undef, .pointer (some ⟨B, 0, none⟩), .bool false, .pointer (some ⟨B + 1, 0, none⟩), .pointer (some ⟨B + 1 + 1, 0, none⟩), .pointer (some ⟨N, 0, none⟩), undef, .int .i64 3, .int .i64 k, .int .i64 k, .int .i64 E, .bool bv, .agg #[.int .i64 (o0.val : Int), .int .i64 (o1.val : Int), .int .i64 (o2.val : Int), .int .i64 (o3.val : Int), .int .i64 (o4.val : Int)], .slice (some ⟨N, 0, none⟩) 5 5, .func (.func 52) #[] #[.pointer (some ⟨N + 1, 0, none⟩)], .int .i64 xi, .int .i64 3, .int .i64 3, .int .i64 R, .int .i64 3, .pointer (some ⟨0, 3, none⟩), .int .i64 8, .int .i64 256, .int .i64 255, .int .i64 (R % 256), .pointer (some ⟨B + 1, 3, none⟩), .int .i64 R, .int .i64 3, .pointer (some ⟨0, 3, none⟩), .int .i64 8, .int .i64 (R / 256), undef, undef, undef, undef, undef], defers := [] } ∧ w' = (V.setCell ⟨B + 1 + 1, 0, none⟩ (.int .i64 (R / 256))).drew) ?_ ?_
      · gi_region
        all_goals (refine ⟨rfl, ?_, ?_⟩ <;> first | (simp only [wr1, wr2, wr4, ea, wr3]; done) | rfl)
      rintro e a' w' ⟨rfl, rfl, rfl⟩
      subst hV
      gi_wp2
      refine ⟨((KeepsOthers.setCell W ⟨B + 1, 3, none⟩ (.int .i64 (R % 256))).trans ((keeps_drew _).trans ((KeepsOthers.setCell _ ⟨B + 1 + 1, 0, none⟩ _).trans (keeps_drew _)))).from _, ⟨by simp, fun b hb h0 h1 => (Below.heap_setCell _ _ _ b (by dsimp only; omega)).trans (Below.heap_setCell _ _ _ b (by dsimp only; omega))⟩, ⟨⟨?_, ?_⟩, ?_⟩, ?_, by simp; omega⟩
      · rw [HST.out]
        exact RowB.other (RowB.set HP.out 3 (.int .i64 (R % 256))) (by omega) _
      · rw [HST.out]
        exact boxed_drew ((boxed_drew (boxed_other (j := 3) HR.out (by omega) (.int .i64 (R % 256)))).set (.int .i64 (R / 256)))
      · exact RowB.other (RowB.other HI.out (by omega) _) (by omega) _
      · exact below_drew (Below.setCell (p := ⟨B + 1 + 1, 0, none⟩) (below_drew (Below.setCell (p := ⟨B + 1, 3, none⟩) H7.out (by dsimp only; omega) _)) (by dsimp only; omega) _)
    · have ea : bits .and .i64 R 4095 = R % 4096 := and_modz 12 R 4095 4096 rfl rfl (by omega)
      have wr1 : IntKind.i64.wrap 4096 = 4096 := by decide
      have wr2 : IntKind.i64.wrap (4096 - 1) = 4095 := by decide
      have wr4 : IntKind.i64.wrap 4095 = 4095 := by decide
      have eq' : -9223372036854775808 ≤ R / 4096 ∧ R / 4096 ≤ 9223372036854775807 := by omega
      have wr3 : IntKind.i64.wrap (R / 4096) = R / 4096 := IntWalk.i64_in _ (by omega)
      try simp only [show ((((4 : OrdD).val : Nat)) : Int) = 4 from rfl]
      gi_wp2
      refine wpIn_mono (Q := fun e a' w' => e = .normal ∧ a' = { tmps := #[.int .i64 k, undef, .pointer (some ⟨B, 0, none⟩), .bool false, .pointer (some ⟨B + 1, 0, none⟩), .pointer (some ⟨B + 1 + 1, 0, none⟩), .pointer (some ⟨N, 0, none⟩), undef, .int .i64 4, .int .i64 k, .int .i64 k, .int .i64 E, .bool bv, .agg #[.int .i64 (o0.val : Int), .int .i64 (o1.val : Int), .int .i64 (o2.val : Int), .int .i64 (o3.val : Int), .int .i64 (o4.val : Int)], .slice (some ⟨N, 0, none⟩) 5 5, .func (.func 52) #[] #[.pointer (some ⟨N + 1, 0, none⟩)], .int .i64 xi, .int .i64 4, .int .i64 4, .int .i64 R, .int .i64 4, .pointer (some ⟨0, 4, none⟩), .int .i64 12, .int .i64 4096, .int .i64 4095, .int .i64 (R % 4096), .pointer (some ⟨B + 1, 4, none⟩), undef, undef, undef, undef, undef, undef, undef, undef, undef, undef], defers := [] } ∧ w' = (W.setCell ⟨B + 1, 4, none⟩ (.int .i64 (R % 4096))).drew) ?_ ?_
      · gi_region
        all_goals (refine ⟨rfl, ?_, ?_⟩ <;> first | (simp only [wr1, wr2, wr4, ea]; done) | rfl)
      rintro e a' w' ⟨rfl, rfl, rfl⟩
      have t4' : ((W.setCell ⟨B + 1, 4, none⟩ (.int .i64 (R % 4096))).drew).cell? ⟨0, 4, none⟩ = some (.int .i64 12) := by
        show (W.setCell ⟨B + 1, 4, none⟩ (.int .i64 (R % 4096))).cell? ⟨0, 4, none⟩ = _
        rw [World.cell?_of_block (Below.heap_setCell _ _ _ 0 (by simp))]
        exact t4
      have e1' : ((W.setCell ⟨B + 1, 4, none⟩ (.int .i64 (R % 4096))).drew).cell? ⟨B + 1 + 1, 0, none⟩ = some (.int .i64 R) := (boxed_drew (boxed_other (j := 4) HR.out (by omega) (.int .i64 (R % 4096)))).cell
      have f1' : ((W.setCell ⟨B + 1, 4, none⟩ (.int .i64 (R % 4096))).drew).frozen? ⟨B + 1 + 1, 0, none⟩ = false := (boxed_drew (boxed_other (j := 4) HR.out (by omega) (.int .i64 (R % 4096)))).frozen
      clear t0 t1 t2 t3 t4 c0 c1 c2 c3 c4 cf0 cf1 cf2 cf3 cf4 r0 rf
      obtain ⟨V, hV⟩ : ∃ V, (W.setCell ⟨B + 1, 4, none⟩ (.int .i64 (R % 4096))).drew = V := ⟨_, rfl⟩
      rw [hV] at t4' e1' f1' ⊢
      gi_wp2
      refine wpIn_mono (Q := fun e a' w' => e = .normal ∧ a' = { tmps := #[.int .i64 k, undef, .pointer (some ⟨B, 0, none⟩), .bool false, .pointer (some ⟨B + 1, 0, none⟩), .pointer (some ⟨B + 1 + 1, 0, none⟩), .pointer (some ⟨N, 0, none⟩), undef, .int .i64 4, .int .i64 k, .int .i64 k, .int .i64 E, .bool bv, .agg #[.int .i64 (o0.val : Int), .int .i64 (o1.val : Int), .int .i64 (o2.val : Int), .int .i64 (o3.val : Int), .int .i64 (o4.val : Int)], .slice (some ⟨N, 0, none⟩) 5 5, .func (.func 52) #[] #[.pointer (some ⟨N + 1, 0, none⟩)], .int .i64 xi, .int .i64 4, .int .i64 4, .int .i64 R, .int .i64 4, .pointer (some ⟨0, 4, none⟩), .int .i64 12, .int .i64 4096, .int .i64 4095, .int .i64 (R % 4096), .pointer (some ⟨B + 1, 4, none⟩), .int .i64 R, .int .i64 4, .pointer (some ⟨0, 4, none⟩), .int .i64 12, .int .i64 (R / 4096), undef, undef, undef, undef, undef], defers := [] } ∧ w' = (V.setCell ⟨B + 1 + 1, 0, none⟩ (.int .i64 (R / 4096))).drew) ?_ ?_
      · gi_region
        all_goals (refine ⟨rfl, ?_, ?_⟩ <;> first | (simp only [wr1, wr2, wr4, ea, wr3]; done) | rfl)
      rintro e a' w' ⟨rfl, rfl, rfl⟩
      subst hV
      gi_wp2
      refine ⟨((KeepsOthers.setCell W ⟨B + 1, 4, none⟩ (.int .i64 (R % 4096))).trans ((keeps_drew _).trans ((KeepsOthers.setCell _ ⟨B + 1 + 1, 0, none⟩ _).trans (keeps_drew _)))).from _, ⟨by simp, fun b hb h0 h1 => (Below.heap_setCell _ _ _ b (by dsimp only; omega)).trans (Below.heap_setCell _ _ _ b (by dsimp only; omega))⟩, ⟨⟨?_, ?_⟩, ?_⟩, ?_, by simp; omega⟩
      · rw [HST.out]
        exact RowB.other (RowB.set HP.out 4 (.int .i64 (R % 4096))) (by omega) _
      · rw [HST.out]
        exact boxed_drew ((boxed_drew (boxed_other (j := 4) HR.out (by omega) (.int .i64 (R % 4096)))).set (.int .i64 (R / 4096)))
      · exact RowB.other (RowB.other HI.out (by omega) _) (by omega) _
      · exact below_drew (Below.setCell (p := ⟨B + 1 + 1, 0, none⟩) (below_drew (Below.setCell (p := ⟨B + 1, 4, none⟩) H7.out (by dsimp only; omega) _)) (by dsimp only; omega) _)
  case done =>
    rintro D ys W hD rfl ⟨⟨⟨h1, h2⟩, h3⟩, h7, h8⟩ hK
    have hok := sF_ok HK9.out [(4, o4), (3, o3), (2, o2), (1, o1), (0, o0)]
    have IO2 := IO.out
    obtain ⟨⟨R5, PL⟩, hs⟩ : ∃ s, sF k [(4, o4), (3, o3), (2, o2), (1, o1), (0, o0)] = s := ⟨_, rfl⟩
    rw [hs] at h1 h2 hok IO2
    have HS : Hid (sF k [(4, o4), (3, o3), (2, o2), (1, o1), (0, o0)] = (R5, PL)) := hs
    dsimp only at h1 h2 IO2
    obtain ⟨p0, p1, p2, p3, p4, rfl⟩ := five_of hok.2
    have HP : Hid (RowB W (B + 1) 62 [.int .i64 p0, .int .i64 p1, .int .i64 p2, .int .i64 p3, .int .i64 p4].toArray) := h1
    have HI : Hid (RowB W B 26 #[.int .i64 0, .int .i64 0, .int .i64 0, .int .i64 0, .bool false, .int .i64 0, .int .i64 0, .int .i64 0, .int .i64 0]) := h3
    have H7 : Hid (Below B W0 W) := h7
    have HKD : Hid (W.heap[D]? = some (.deferred (some []))) := hK
    have HKW : Hid (Kept w W0) := hKW
    have HZB : Hid (w.heap.size = B) := hB
    have hr0 := h2.cell
    have hbi := h3.lt
    clear h1 h2 h3 h7 hs hok hvw hrow hch bI bP bR bO bL hKW hB0 hT hT0 hK
    by_cases hb0 : R5 = 0
    · subst hb0
      have IO3 : Hid (∀ W, Calls Tryd.prog 34 #[.agg #[.int .i64 p0, .int .i64 p1, .int .i64 p2, .int .i64 p3, .int .i64 p4]] W fun e w' => e = .returned (.agg #[.int .i64 i0, .int .i64 i1, .int .i64 i2, .int .i64 i3, .bool i4, .int .i64 i5, .int .i64 i6, .int .i64 i7, .int .i64 i8]) ∧ Kept W w') := IO2 rfl
      have c0 := (RowB.loc HP.out).cell 0 rfl; have c1 := (RowB.loc HP.out).cell 1 rfl; have c2 := (RowB.loc HP.out).cell 2 rfl; have c3 := (RowB.loc HP.out).cell 3 rfl; have c4 := (RowB.loc HP.out).cell 4 rfl
      clear IO2
      gi_wp2_with (refine ⟨trivial, ?_⟩; gi_at_call 34; refine (callsIn_wide.2 (IO3.out _)).mono ?_; rintro e w5 ⟨rfl, k5⟩; have HI5 : Hid (RowB w5 B 26 #[.int .i64 0, .int .i64 0, .int .i64 0, .int .i64 0, .bool false, .int .i64 0, .int .i64 0, .int .i64 0, .int .i64 0]) := (k5.block _ hbi (by omega)).trans HI.out; have HK5 : Hid (Kept W w5) := k5; clear k5; have z0 := (RowB.loc (cs := [.int .i64 0, .int .i64 0, .int .i64 0, .int .i64 0, .bool false, .int .i64 0, .int .i64 0, .int .i64 0, .int .i64 0]) HI5.out).cell 0 rfl; have zf0 := (RowB.loc (cs := [.int .i64 0, .int .i64 0, .int .i64 0, .int .i64 0, .bool false, .int .i64 0, .int .i64 0, .int .i64 0, .int .i64 0]) HI5.out).frozen 0; have z1 := (RowB.loc (cs := [.int .i64 0, .int .i64 0, .int .i64 0, .int .i64 0, .bool false, .int .i64 0, .int .i64 0, .int .i64 0, .int .i64 0]) HI5.out).cell 1 rfl; have zf1 := (RowB.loc (cs := [.int .i64 0, .int .i64 0, .int .i64 0, .int .i64 0, .bool false, .int .i64 0, .int .i64 0, .int .i64 0, .int .i64 0]) HI5.out).frozen 1; have z2 := (RowB.loc (cs := [.int .i64 0, .int .i64 0, .int .i64 0, .int .i64 0, .bool false, .int .i64 0, .int .i64 0, .int .i64 0, .int .i64 0]) HI5.out).cell 2 rfl; have zf2 := (RowB.loc (cs := [.int .i64 0, .int .i64 0, .int .i64 0, .int .i64 0, .bool false, .int .i64 0, .int .i64 0, .int .i64 0, .int .i64 0]) HI5.out).frozen 2; have z3 := (RowB.loc (cs := [.int .i64 0, .int .i64 0, .int .i64 0, .int .i64 0, .bool false, .int .i64 0, .int .i64 0, .int .i64 0, .int .i64 0]) HI5.out).cell 3 rfl; have zf3 := (RowB.loc (cs := [.int .i64 0, .int .i64 0, .int .i64 0, .int .i64 0, .bool false, .int .i64 0, .int .i64 0, .int .i64 0, .int .i64 0]) HI5.out).frozen 3; have z4 := (RowB.loc (cs := [.int .i64 0, .int .i64 0, .int .i64 0, .int .i64 0, .bool false, .int .i64 0, .int .i64 0, .int .i64 0, .int .i64 0]) HI5.out).cell 4 rfl; have zf4 := (RowB.loc (cs := [.int .i64 0, .int .i64 0, .int .i64 0, .int .i64 0, .bool false, .int .i64 0, .int .i64 0, .int .i64 0, .int .i64 0]) HI5.out).frozen 4; have z5 := (RowB.loc (cs := [.int .i64 0, .int .i64 0, .int .i64 0, .int .i64 0, .bool false, .int .i64 0, .int .i64 0, .int .i64 0, .int .i64 0]) HI5.out).cell 5 rfl; have zf5 := (RowB.loc (cs := [.int .i64 0, .int .i64 0, .int .i64 0, .int .i64 0, .bool false, .int .i64 0, .int .i64 0, .int .i64 0, .int .i64 0]) HI5.out).frozen 5; have z6 := (RowB.loc (cs := [.int .i64 0, .int .i64 0, .int .i64 0, .int .i64 0, .bool false, .int .i64 0, .int .i64 0, .int .i64 0, .int .i64 0]) HI5.out).cell 6 rfl; have zf6 := (RowB.loc (cs := [.int .i64 0, .int .i64 0, .int .i64 0, .int .i64 0, .bool false, .int .i64 0, .int .i64 0, .int .i64 0, .int .i64 0]) HI5.out).frozen 6; have z7 := (RowB.loc (cs := [.int .i64 0, .int .i64 0, .int .i64 0, .int .i64 0, .bool false, .int .i64 0, .int .i64 0, .int .i64 0, .int .i64 0]) HI5.out).cell 7 rfl; have zf7 := (RowB.loc (cs := [.int .i64 0, .int .i64 0, .int .i64 0, .int .i64 0, .bool false, .int .i64 0, .int .i64 0, .int .i64 0, .int .i64 0]) HI5.out).frozen 7; have z8 := (RowB.loc (cs := [.int .i64 0, .int .i64 0, .int .i64 0, .int .i64 0, .bool false, .int .i64 0, .int .i64 0, .int .i64 0, .int .i64 0]) HI5.out).cell 8 rfl; have zf8 := (RowB.loc (cs := [.int .i64 0, .int .i64 0, .int .i64 0, .int .i64 0, .bool false, .int .i64 0, .int .i64 0, .int .i64 0, .int .i64 0]) HI5.out).frozen 8)
      have hx := box9 26 (RowB.cast HI5.out) (.int .i64 i0) (.int .i64 i1) (.int .i64 i2) (.int .i64 i3) (.bool i4) (.int .i64 i5) (.int .i64 i6) (.int .i64 i7) (.int .i64 i8)
      have hDl := (Array.getElem?_eq_some_iff.1 HKD.out).1
      have hD' := hx.2.block D (Nat.lt_of_lt_of_le hDl HK5.out.size) (by omega)
      have hK' := (hD'.trans (HK5.out.block D hDl (by omega))).trans HKD.out
      have hcl := RowB.put hx.1 (D := D) (by omega) (.deferred none)
      have y0 := hcl.loc.cell 0 rfl; have y1 := hcl.loc.cell 1 rfl; have y2 := hcl.loc.cell 2 rfl; have y3 := hcl.loc.cell 3 rfl; have y4 := hcl.loc.cell 4 rfl; have y5 := hcl.loc.cell 5 rfl; have y6 := hcl.loc.cell 6 rfl; have y7 := hcl.loc.cell 7 rfl; have y8 := hcl.loc.cell 8 rfl
      refine ⟨by simp, .inl ⟨_, _, rfl, run_takeDeferred hK', ?_⟩⟩
      refine ⟨.tuple #[.agg #[.int .i64 i0, .int .i64 i1, .int .i64 i2, .int .i64 i3, .bool i4, .int .i64 i5, .int .i64 i6, .int .i64 i7, .int .i64 i8], .bool true], by simp [results, Tryd.results10, go_sem, *], ?_, ?_⟩
      · rw [HY.out (by rw [HS.out])]
      · exact kept_end HKW.out H7.out HK5.out hx.2 HZB.out (by omega) _
    · have dR : (R5 == 0) = false := by simpa using hb0
      clear IO2
      have z0 := (RowB.loc (cs := [.int .i64 0, .int .i64 0, .int .i64 0, .int .i64 0, .bool false, .int .i64 0, .int .i64 0, .int .i64 0, .int .i64 0]) HI.out).cell 0 rfl; have zf0 := (RowB.loc (cs := [.int .i64 0, .int .i64 0, .int .i64 0, .int .i64 0, .bool false, .int .i64 0, .int .i64 0, .int .i64 0, .int .i64 0]) HI.out).frozen 0; have z1 := (RowB.loc (cs := [.int .i64 0, .int .i64 0, .int .i64 0, .int .i64 0, .bool false, .int .i64 0, .int .i64 0, .int .i64 0, .int .i64 0]) HI.out).cell 1 rfl; have zf1 := (RowB.loc (cs := [.int .i64 0, .int .i64 0, .int .i64 0, .int .i64 0, .bool false, .int .i64 0, .int .i64 0, .int .i64 0, .int .i64 0]) HI.out).frozen 1; have z2 := (RowB.loc (cs := [.int .i64 0, .int .i64 0, .int .i64 0, .int .i64 0, .bool false, .int .i64 0, .int .i64 0, .int .i64 0, .int .i64 0]) HI.out).cell 2 rfl; have zf2 := (RowB.loc (cs := [.int .i64 0, .int .i64 0, .int .i64 0, .int .i64 0, .bool false, .int .i64 0, .int .i64 0, .int .i64 0, .int .i64 0]) HI.out).frozen 2; have z3 := (RowB.loc (cs := [.int .i64 0, .int .i64 0, .int .i64 0, .int .i64 0, .bool false, .int .i64 0, .int .i64 0, .int .i64 0, .int .i64 0]) HI.out).cell 3 rfl; have zf3 := (RowB.loc (cs := [.int .i64 0, .int .i64 0, .int .i64 0, .int .i64 0, .bool false, .int .i64 0, .int .i64 0, .int .i64 0, .int .i64 0]) HI.out).frozen 3; have z4 := (RowB.loc (cs := [.int .i64 0, .int .i64 0, .int .i64 0, .int .i64 0, .bool false, .int .i64 0, .int .i64 0, .int .i64 0, .int .i64 0]) HI.out).cell 4 rfl; have zf4 := (RowB.loc (cs := [.int .i64 0, .int .i64 0, .int .i64 0, .int .i64 0, .bool false, .int .i64 0, .int .i64 0, .int .i64 0, .int .i64 0]) HI.out).frozen 4; have z5 := (RowB.loc (cs := [.int .i64 0, .int .i64 0, .int .i64 0, .int .i64 0, .bool false, .int .i64 0, .int .i64 0, .int .i64 0, .int .i64 0]) HI.out).cell 5 rfl; have zf5 := (RowB.loc (cs := [.int .i64 0, .int .i64 0, .int .i64 0, .int .i64 0, .bool false, .int .i64 0, .int .i64 0, .int .i64 0, .int .i64 0]) HI.out).frozen 5; have z6 := (RowB.loc (cs := [.int .i64 0, .int .i64 0, .int .i64 0, .int .i64 0, .bool false, .int .i64 0, .int .i64 0, .int .i64 0, .int .i64 0]) HI.out).cell 6 rfl; have zf6 := (RowB.loc (cs := [.int .i64 0, .int .i64 0, .int .i64 0, .int .i64 0, .bool false, .int .i64 0, .int .i64 0, .int .i64 0, .int .i64 0]) HI.out).frozen 6; have z7 := (RowB.loc (cs := [.int .i64 0, .int .i64 0, .int .i64 0, .int .i64 0, .bool false, .int .i64 0, .int .i64 0, .int .i64 0, .int .i64 0]) HI.out).cell 7 rfl; have zf7 := (RowB.loc (cs := [.int .i64 0, .int .i64 0, .int .i64 0, .int .i64 0, .bool false, .int .i64 0, .int .i64 0, .int .i64 0, .int .i64 0]) HI.out).frozen 7; have z8 := (RowB.loc (cs := [.int .i64 0, .int .i64 0, .int .i64 0, .int .i64 0, .bool false, .int .i64 0, .int .i64 0, .int .i64 0, .int .i64 0]) HI.out).cell 8 rfl; have zf8 := (RowB.loc (cs := [.int .i64 0, .int .i64 0, .int .i64 0, .int .i64 0, .bool false, .int .i64 0, .int .i64 0, .int .i64 0, .int .i64 0]) HI.out).frozen 8
      gi_wp2
      have hx := box9 26 (RowB.cast HI.out) (.int .i64 0) (.int .i64 0) (.int .i64 0) (.int .i64 0) (.bool false) (.int .i64 0) (.int .i64 0) (.int .i64 0) (.int .i64 0)
      have hDl := (Array.getElem?_eq_some_iff.1 HKD.out).1
      have hK' := (hx.2.block D hDl (by omega)).trans HKD.out
      have hcl := RowB.put hx.1 (D := D) (by omega) (.deferred none)
      have y0 := hcl.loc.cell 0 rfl; have y1 := hcl.loc.cell 1 rfl; have y2 := hcl.loc.cell 2 rfl; have y3 := hcl.loc.cell 3 rfl; have y4 := hcl.loc.cell 4 rfl; have y5 := hcl.loc.cell 5 rfl; have y6 := hcl.loc.cell 6 rfl; have y7 := hcl.loc.cell 7 rfl; have y8 := hcl.loc.cell 8 rfl
      refine ⟨by simp, .inl ⟨_, _, rfl, run_takeDeferred hK', ?_⟩⟩
      refine ⟨.tuple #[.agg #[.int .i64 0, .int .i64 0, .int .i64 0, .int .i64 0, .bool false, .int .i64 0, .int .i64 0, .int .i64 0, .int .i64 0], .bool false], by simp [results, Tryd.results10, go_sem, *], ?_, ?_⟩
      · rw [HN.out (by rw [HS.out]; exact hb0)]
      · exact kept_end HKW.out H7.out (But.refl _ _ _) hx.2 HZB.out (by omega) _

end Go.Proofs.YtoimpkhgdpkhkaaDoor
