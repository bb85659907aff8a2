/-
  Buffered of the program.
-/
import Derived.Test.YthkfpbknfjapaaaIBufN17
namespace Go.Proofs.Ythkfpbknfjapaaa
open Go.ChangeShapes Go.WideShapes Go.ChangeAt Go.RowKit

set_option maxRecDepth 100000
set_option linter.unusedVariables false

open Go.Shelf
attribute [local go_sem] Oper.semAt_some
def NoHit (a : ByteArray) (t win : Int) (pre : List BkE) : Prop := ∀ x ∈ pre, hitB a t win x.2 = false
theorem keptB {w W0 W : World} {B : Nat} (k : Kept w W0) (h : Below B W0 W) (hB : w.heap.size = B) : Kept w W := ⟨h.os.trans k.os, h.output.trans k.out, Nat.le_trans k.size h.size, fun b hb _ => (h.block b (by omega)).trans (k.block b hb (by omega))⟩
set_option maxHeartbeats 8000000 in
theorem ibuf_yes (l : List MeantD) (a : ByteArray) (t win : Int) (v : Value) (w : World) (hv : MeantAt w v l) (hn : l.length ≤ 1048576) (hs : ∀ d ∈ l, d.2.1.size ≤ 1048576) (ha : a.size ≤ 1048576) (h1 : MomsP l) (h2 : nameB a = true) (h3 : 0 ≤ t ∧ t ≤ 100000) (h4 : 0 ≤ win ∧ win ≤ 100000) :
    Calls Try.prog 38 #[v, .string a, .int .i64 t, .int .i64 win] w fun e w' => e = .returned (.tuple #[.int .i64 (bufK l a t win l.length), .bool true]) ∧ Kept w w' := by
  obtain ⟨ao, cap, hsl⟩ := row_nil hv
  subst hsl
  have dm := dec_yes h1
  have dn := h2
  have dt : decide (0 ≤ t ∧ t ≤ 100000) = true := decide_eq_true h3
  have dw : decide (0 ≤ win ∧ win ≤ 100000) = true := decide_eq_true h4
  refine (callsIn_wide (n := 6)).1 ?_
  refine callsIn_of_wp_marks Try.func38 rfl trivial ?_ rfl
  simp only [Try.ntmps38, List.size_toArray, List.length_cons, List.length_nil, Nat.reduceAdd, Nat.reduceSub, Array.replicate_succ, Array.replicate_zero, List.push_toArray, List.append_toArray, List.nil_append, List.cons_append]
  gi_wp2_with (first | (refine ⟨trivial, ?_⟩; gi_at_call 78; refine (callsIn_wide.2 (imoms l _ _ (hv.kept (by (repeat (first | with_reducible exact But.refl _ _ _ | with_reducible apply But.drewN | with_reducible apply But.drew | with_reducible apply But.alloc | (with_reducible refine But.setNew ?_ (by simp; try omega) _))))) hn hs)).mono ?_; rintro e w1 ⟨rfl, k1⟩; rw [dm]; have La := ((((Loc.new w [.string a] 9).alloc _).alloc _).alloc _).alloc _ |>.kept k1; have Lt := (((Loc.new _ [.int .i64 t] 3).alloc _).alloc _).alloc _ |>.kept k1; have Lw := ((Loc.new _ [.int .i64 win] 3).alloc _).alloc _ |>.kept k1; have Lr := (Loc.new _ [.int .i64 0] 3).alloc _ |>.kept k1; have Lo := (Loc.new _ [.bool false] 4).kept k1; simp only [World.size_alloc] at Lt Lw Lr Lo; have a0 := La.cell 0 rfl; have t0 := Lt.cell 0 rfl; have n0 := Lw.cell 0 rfl; have K1 : Kept w w1 := But.trans (by (repeat (first | with_reducible exact But.refl _ _ _ | with_reducible apply But.drewN | with_reducible apply But.drew | with_reducible apply But.alloc | (with_reducible refine But.setNew ?_ (by simp; try omega) _)))) k1; clear La Lt Lw Lr Lo) | (refine ⟨trivial, ?_⟩; gi_at_call 59; refine (callsIn_wide.2 (iname a _ ha)).mono ?_; rintro e w3 ⟨rfl, hw3⟩; rw [hw3, dn]; clear hw3 w3) | (refine ⟨trivial, ?_⟩; gi_at_call 72; refine (callsIn_wide.2 (itime _ _)).mono ?_; rintro e w3 ⟨rfl, hw3⟩; rw [hw3]; (first | rw [dt] | rw [dw]); clear hw3 w3) | (refine ⟨trivial, ?_⟩; gi_at_call 79; refine (back_in _ _ trivial rfl _ _ _ _).mono ?_; rintro e w3 ⟨rfl, hw3⟩; rw [hw3]; clear hw3 w3))
  have bA : Boxed w1 w.heap.size 9 (.string a) := (k1.block _ (by simp; omega) (by omega)).trans (((((Boxed.new w 9 (.string a)).alloc _).alloc _).alloc _).alloc _)
  have bT : Boxed w1 (w.heap.size + 1) 3 (.int .i64 t) := (k1.block _ (by simp) (by omega)).trans (by have := (((Boxed.new (w.alloc (.cells #[.string a] 9)) 3 (.int .i64 t)).alloc (.cells #[.int .i64 win] 3)).alloc (.cells #[.int .i64 0] 3)).alloc (.cells #[.bool false] 4); simp only [World.size_alloc] at this; exact this)
  have bW : Boxed w1 (w.heap.size + 1 + 1) 3 (.int .i64 win) := (k1.block _ (by simp) (by omega)).trans (by have := ((Boxed.new ((w.alloc (.cells #[.string a] 9)).alloc (.cells #[.int .i64 t] 3)) 3 (.int .i64 win)).alloc (.cells #[.int .i64 0] 3)).alloc (.cells #[.bool false] 4); simp only [World.size_alloc] at this; exact this)
  have bR : Boxed w1 (w.heap.size + 1 + 1 + 1) 3 (.int .i64 0) := (k1.block _ (by simp) (by omega)).trans (by have := (Boxed.new (((w.alloc (.cells #[.string a] 9)).alloc (.cells #[.int .i64 t] 3)).alloc (.cells #[.int .i64 win] 3)) 3 (.int .i64 0)).alloc (.cells #[.bool false] 4); simp only [World.size_alloc] at this; exact this)
  have bO : Boxed w1 (w.heap.size + 1 + 1 + 1 + 1) 4 (.bool false) := (k1.block _ (by simp) (by omega)).trans (by have := Boxed.new ((((w.alloc (.cells #[.string a] 9)).alloc (.cells #[.int .i64 t] 3)).alloc (.cells #[.int .i64 win] 3)).alloc (.cells #[.int .i64 0] 3)) 4 (.bool false); simp only [World.size_alloc] at this; exact this)
  have bL := Boxed.new w1 27 (.slice ao l.length cap)
  have bA := bA.alloc (.cells #[.slice ao l.length cap] 27)
  have bT := bT.alloc (.cells #[.slice ao l.length cap] 27)
  have bW := bW.alloc (.cells #[.slice ao l.length cap] 27)
  have bR := bR.alloc (.cells #[.slice ao l.length cap] 27)
  have bO := bO.alloc (.cells #[.slice ao l.length cap] 27)
  have hz1 := k1.size
  simp only [World.size_alloc] at hz1
  have hKW : Kept w (w1.alloc (.cells #[.slice ao l.length cap] 27)) := K1.alloc _
  have hsz : (w1.alloc (.cells #[.slice ao l.length cap] 27)).heap.size = w1.heap.size + 1 := by simp
  obtain ⟨W0, hW0⟩ : ∃ W0, w1.alloc (.cells #[.slice ao l.length cap] 27) = W0 := ⟨_, rfl⟩
  rw [hW0] at bA bT bW bR bO bL hKW hsz ⊢
  clear hW0
  obtain ⟨B, hB⟩ : ∃ B, w.heap.size = B := ⟨_, rfl⟩
  obtain ⟨N, hN⟩ : ∃ N, w1.heap.size = N := ⟨_, rfl⟩
  have hB0 : Below B W0 W0 := Below.refl _ _
  have hvw := hv.kept hKW
  have hrow : ∀ X Y, Bu (B + 1 + 1 + 1) (B + 1 + 1 + 1 + 1) (N + 1) X Y → MeantAt X (.slice ao l.length cap) l → MeantAt Y (.slice ao l.length cap) l := by
    rintro A' B' hAB ⟨ao', cap', e, hc⟩
    cases e
    refine ⟨ao, cap, rfl, fun j x hx => ?_⟩
    obtain ⟨b, o, rfl, h1⟩ := hc j x hx
    obtain ⟨ao2, cap2, e2, hc2⟩ := hv
    cases e2
    obtain ⟨b2, o2, e3, h3⟩ := hc2 j x hx
    cases e3
    have hb := World.block_lt_of_cell? w _ h3
    dsimp only at hb
    exact ⟨b, o, rfl, hAB.cell (a := ⟨b, o + j, none⟩) (by dsimp only; omega) (by dsimp only; omega) (by dsimp only; omega) h1⟩
  obtain ⟨xs, hch⟩ := back_is l l.length (Nat.le_refl _)
  have hfin := back_buf l a t win xs l.length hch
  have hwm := h3
  have hww := h4
  clear k1 K1 dm dn dt dw h1 h2 a0 t0 n0 hs
  rw [hB] at bA bT bW bR bO ⊢
  rw [hN] at bL hsz ⊢
  rw [hB, hN] at hz1
  refine wpIn_rangeFunc_ownH rfl (by omega) (gf := 107) (lb := #[.pointer (some ⟨N, 0, none⟩)]) rfl trivial (enters_of Try.func107 (by kernel_rfl) rfl)
    (back_stops Fence.wide _ trivial rfl (by omega) (B + 1 + 1 + 1) (B + 1 + 1 + 1 + 1) (N + 1) N l ao cap hn xs hch W0 bL.cell hvw (by omega) (by omega) (by omega) hrow)
    Bu.trans (Bu.put (by omega)) (Below.refl _ _) (fun _ => rfl)
    (fun pre W => ((Boxed W B 9 (.string a) ∧ Boxed W (B + 1) 3 (.int .i64 t)) ∧ (Boxed W (B + 1 + 1) 3 (.int .i64 win) ∧ Boxed W (B + 1 + 1 + 1) 3 (.int .i64 0)) ∧ Boxed W (B + 1 + 1 + 1 + 1) 4 (.bool false)) ∧ NoHit a t win pre ∧ Below B W0 W ∧ N + 1 ≤ W.heap.size)
    (fun cd pre W => (Boxed W (B + 1 + 1 + 1) 3 (.int .i64 ((pre.getLast?.map Prod.fst).getD 0)) ∧ Boxed W (B + 1 + 1 + 1 + 1) 4 (.bool true)) ∧ (cd = .ret ∧ ∃ (p0 : List BkE) (x : BkE), pre = p0 ++ [x] ∧ hitB a t win x.2 = true ∧ NoHit a t win p0) ∧ Below B W0 W)
    (OwnFrom.and (OwnFrom.and (OwnFrom.and (Own.from (boxed_own _ _ _) _) (Own.from (boxed_own _ _ _) _)) (OwnFrom.and (OwnFrom.and (Own.from (boxed_own _ _ _) _) (Own.from (boxed_own _ _ _) _)) (Own.from (boxed_own _ _ _) _))) (OwnFrom.and (fun _ _ _ _ hs _ _ => hs) (OwnFrom.and (ownFrom_below (by omega) (by omega)) (fun _ _ _ _ hs hg _ => Nat.le_trans hs hg.size))))
    (fun cd => OwnFrom.and (OwnFrom.and (Own.from (boxed_own _ _ (fun pre : List BkE => Value.int .i64 ((pre.getLast?.map Prod.fst).getD 0))) _) (Own.from (boxed_own _ _ _) _)) (OwnFrom.and (fun _ _ _ _ hs _ _ => hs) (ownFrom_below (by omega) (by omega))))
    ⟨⟨⟨bA, bT⟩, ⟨bW, bR⟩, bO⟩, (fun x hx => by simp at hx), hB0, by omega⟩
    (fun x a' W => ∃ Bx, N + 1 ≤ Bx ∧ W.heap[Bx]? = some (.cells (meantC x.2).toArray 31 (0, 0)) ∧ a' = { tmps := #[.slice ao l.length cap, .string a, .int .i64 t, .int .i64 win, undef, .pointer (some ⟨B, 0, none⟩), .pointer (some ⟨B + 1, 0, none⟩), .pointer (some ⟨B + 1 + 1, 0, none⟩), .pointer (some ⟨B + 1 + 1 + 1, 0, none⟩), .pointer (some ⟨B + 1 + 1 + 1 + 1, 0, none⟩), .int .i64 x.1, .pointer (some ⟨Bx, 0, none⟩), .slice ao l.length cap, .bool true, .bool false, .bool false, .string a, .bool true, .bool false, .bool false, .bool false, .int .i64 t, .bool true, .bool false, .bool false, .bool false, .int .i64 win, .bool true, .bool false, .bool false, .slice ao l.length cap, .func (.func 107) #[] #[.pointer (some ⟨N, 0, none⟩)], .int .i64 x.1, mv x.2, undef, undef, undef, undef, undef, undef, undef, undef, undef, undef, undef, undef, undef, undef, undef, undef, undef, undef, undef, undef, undef, undef, undef], defers := [] })
    (fun x a' _ A' B' row hs hg hr => ?hAx) ?assign ?body ?done ?stop
  case hAx =>
    obtain ⟨Bx, h1, h2, h3⟩ := hs
    refine ⟨Bx, h1, ?_, h3⟩
    refine (hg.block Bx (Array.getElem?_eq_some_iff.1 h2).1 (fun e => ?_)).trans h2
    obtain ⟨_, o, ho, hc⟩ := hr Bx e.symm
    rw [show A'.heap[Bx]? = _ from h2] at ho
    cases ho
    cases hc
  case assign =>
    rintro lp pre ⟨xi, t0, nm, on⟩ W K hI hK
    obtain ⟨⟨⟨h1, h2⟩, ⟨h3, h4⟩, h5⟩, h6, h7, h8⟩ := hI
    simp only [mv]
    gi_wp2
    exact hK _ _ ((KeepsOthers.alloc _ _).from _) ⟨by simp, fun b hb' _ _ => Below.heap_alloc W _ b (by omega)⟩ ⟨⟨⟨h1.alloc _, h2.alloc _⟩, ⟨h3.alloc _, h4.alloc _⟩, h5.alloc _⟩, h6, h7.alloc (by omega) _, by simp; omega⟩ ⟨W.heap.size, by omega, World.alloc_heap_new W _, rfl⟩
  case body =>
    rintro lp pre ⟨xi, t0, nm, on⟩ a' W hl ⟨r, hr0⟩ ⟨⟨⟨h1, h2⟩, ⟨h3, h4⟩, h5⟩, h6, h7, h8⟩ ⟨Bx, hBx, hNB, rfl⟩ hlt
    dsimp only [meantC] at hNB
    have e1 := h1.cell
    have e2 := h2.cell
    have e3 := h3.cell
    have e4 := h4.cell
    have e5 := h5.cell
    have f4 := h4.frozen
    have f5 := h5.frozen
    have c0 : W.cell? ⟨Bx, 0, none⟩ = some (.int .i64 t0) := by rw [cell_of_row W Bx 0 _ 31 (0, 0) hNB]; rfl
    have c1 : W.cell? ⟨Bx, 1, none⟩ = some (.string nm) := by rw [cell_of_row W Bx 1 _ 31 (0, 0) hNB]; rfl
    have c2 : W.cell? ⟨Bx, 2, none⟩ = some (.bool on) := by rw [cell_of_row W Bx 2 _ 31 (0, 0) hNB]; rfl
    obtain ⟨hta, htb⟩ := hwm
    obtain ⟨hwa, hwb⟩ := hww
    have hno : hitB a t win (t0, nm, on) = false → NoHit a t win (pre ++ [(xi, t0, nm, on)]) := fun h y hy => by
      rcases List.mem_append.1 hy with hy | hy
      · exact h6 y hy
      · simp only [List.mem_singleton] at hy
        subst hy
        exact h
    have HNO : Hid (hitB a t win (t0, nm, on) = false → NoHit a t win (pre ++ [(xi, t0, nm, on)])) := hno
    have HB1 : Hid (Boxed W B 9 (.string a)) := h1
    have HB2 : Hid (Boxed W (B + 1) 3 (.int .i64 t)) := h2
    have HB3 : Hid (Boxed W (B + 1 + 1) 3 (.int .i64 win)) := h3
    have HB4 : Hid (Boxed W (B + 1 + 1 + 1) 3 (.int .i64 0)) := h4
    have HB5 : Hid (Boxed W (B + 1 + 1 + 1 + 1) 4 (.bool false)) := h5
    have HB6 : Hid (NoHit a t win pre) := h6
    have HB7 : Hid (Below B W0 W) := h7
    clear hno h1 h2 h3 h4 h5 h6 h7 hNB hr0 hvw hv hch hfin bA bT bW bR bO bL hrow hKW hB0
    have e5' : (W.setCell ⟨B + 1 + 1 + 1, 0, none⟩ (.int .i64 xi)).cell? ⟨B + 1 + 1 + 1 + 1, 0, none⟩ = some (.bool false) := (HB5.out.other (by omega) _).cell
    have f5' : (W.setCell ⟨B + 1 + 1 + 1, 0, none⟩ (.int .i64 xi)).frozen? ⟨B + 1 + 1 + 1 + 1, 0, none⟩ = false := (HB5.out.other (by omega) _).frozen
    cases on with
    | false =>
      gi_wp2
      exact ⟨KeepsFrom.refl _ _, ⟨Nat.le_refl _, fun _ _ _ _ => rfl⟩, ⟨⟨HB1.out, HB2.out⟩, ⟨HB3.out, HB4.out⟩, HB5.out⟩, HNO.out (by simp [hitB]), HB7.out, h8⟩
    | true =>
      cases q2 : (nm.toList == a.toList) with
      | false =>
        gi_wp2
        exact ⟨KeepsFrom.refl _ _, ⟨Nat.le_refl _, fun _ _ _ _ => rfl⟩, ⟨⟨HB1.out, HB2.out⟩, ⟨HB3.out, HB4.out⟩, HB5.out⟩, HNO.out (by simp [hitB, q2]), HB7.out, h8⟩
      | true =>
        by_cases q3 : t - win ≤ t0
        · by_cases q4 : t0 ≤ t
          · have d3 : decide (t - win ≤ t0) = true := decide_eq_true q3
            have d4 : decide (t0 ≤ t) = true := decide_eq_true q4
            have HH : Hid (hitB a t win (t0, nm, true) = true) := by
              have : hitB a t win (t0, nm, true) = true := by
                simp only [hitB, q2, Bool.true_and]
                exact decide_eq_true ⟨q3, q4⟩
              exact this
            gi_wp2
            refine ⟨((KeepsOthers.setCell _ _ _).from _).trans ((KeepsOthers.setCell _ _ _).from _), ⟨?_, (HB5.out.other (by omega) _).set _⟩, ⟨rfl, pre, (xi, t0, nm, true), rfl, ?_, HB6.out⟩, ?_⟩
            · have := (HB4.out.set (.int .i64 xi)).other (B' := B + 1 + 1 + 1 + 1) (by omega) (.bool true)
              simpa using this
            · exact HH.out
            · exact (HB7.out.setCell (p := ⟨B + 1 + 1 + 1, 0, none⟩) (by dsimp only; omega) _).setCell (p := ⟨B + 1 + 1 + 1 + 1, 0, none⟩) (by dsimp only; omega) _
          · have d3 : decide (t - win ≤ t0) = true := decide_eq_true q3
            have d4 : decide (t0 ≤ t) = false := decide_eq_false q4
            have HH : Hid (NoHit a t win (pre ++ [(xi, t0, nm, true)])) := HNO.out (by simp only [hitB, decide_eq_false (show ¬ (t - win ≤ t0 ∧ t0 ≤ t) from fun h => q4 h.2), Bool.and_false])
            gi_wp2
            exact ⟨KeepsFrom.refl _ _, ⟨Nat.le_refl _, fun _ _ _ _ => rfl⟩, ⟨⟨HB1.out, HB2.out⟩, ⟨HB3.out, HB4.out⟩, HB5.out⟩, HH.out, HB7.out, h8⟩
        · have d3 : decide (t - win ≤ t0) = false := decide_eq_false q3
          have HH : Hid (NoHit a t win (pre ++ [(xi, t0, nm, true)])) := HNO.out (by simp only [hitB, decide_eq_false (show ¬ (t - win ≤ t0 ∧ t0 ≤ t) from fun h => q3 h.1), Bool.and_false])
          gi_wp2
          exact ⟨KeepsFrom.refl _ _, ⟨Nat.le_refl _, fun _ _ _ _ => rfl⟩, ⟨⟨HB1.out, HB2.out⟩, ⟨HB3.out, HB4.out⟩, HB5.out⟩, HH.out, HB7.out, h8⟩
  case done =>
    rintro D ys W hD rfl ⟨⟨⟨h1, h2⟩, ⟨h3, h4⟩, h5⟩, h6, h7, h8⟩ hK
    have e4 := h4.cell
    have e5 := h5.cell
    have f4 := h4.frozen
    have f5 := h5.frozen
    have e5' : (W.setCell ⟨B + 1 + 1 + 1, 0, none⟩ (.int .i64 (-1))).cell? ⟨B + 1 + 1 + 1 + 1, 0, none⟩ = some (.bool false) := (h5.other (by omega) _).cell
    have f5' : (W.setCell ⟨B + 1 + 1 + 1, 0, none⟩ (.int .i64 (-1))).frozen? ⟨B + 1 + 1 + 1 + 1, 0, none⟩ = false := (h5.other (by omega) _).frozen
    have hans : bufK l a t win l.length = -1 := by rw [← hfin]; exact bufX_none h6
    have HA : Hid (bufK l a t win l.length = -1) := hans
    have H4 : Hid (Boxed W (B + 1 + 1 + 1) 3 (.int .i64 0)) := h4
    have H5 : Hid (Boxed W (B + 1 + 1 + 1 + 1) 4 (.bool false)) := h5
    have H7 : Hid (Below B W0 W) := h7
    have HKD : Hid (W.heap[D]? = some (.deferred (some []))) := hK
    clear hans hfin h1 h2 h3 h4 h5 h6 h7 hvw hv hch bA bT bW bR bO bL hrow hB0 hK
    gi_wp2
    have hr' := (H4.out.set (.int .i64 (-1))).other (B' := B + 1 + 1 + 1 + 1) (by omega) (.bool true)
    have ho' := (H5.out.other (B' := B + 1 + 1 + 1) (by omega) (.int .i64 (-1))).set (.bool true)
    have hK' : ((W.setCell ⟨B + 1 + 1 + 1, 0, none⟩ (.int .i64 (-1))).setCell ⟨B + 1 + 1 + 1 + 1, 0, none⟩ (.bool true)).heap[D]? = some (.deferred (some [])) := (KeepsOthers.setCell _ _ _).same D _ ((KeepsOthers.setCell _ _ _).same D _ HKD.out rfl) rfl
    have hcell := cell_kept hr'.cell (grownBy_putObj' _ D (.deferred none)) (fun r e => by cases e; exact ⟨_, hK', rfl⟩)
    have hcell2 := cell_kept ho'.cell (grownBy_putObj' _ D (.deferred none)) (fun r e => by cases e; exact ⟨_, hK', rfl⟩)
    refine ⟨by simp, .inl ⟨_, _, rfl, run_takeDeferred hK', ?_⟩⟩
    refine ⟨.tuple #[.int .i64 (-1), .bool true], by simp [results, Try.results38, go_sem, hcell, hcell2], ?_, ?_⟩
    · rw [HA.out]
    · exact keptB hKW (((H7.out.setCell (p := ⟨B + 1 + 1 + 1, 0, none⟩) (by dsimp only; omega) _).setCell (p := ⟨B + 1 + 1 + 1 + 1, 0, none⟩) (by dsimp only; omega) _).trans (belowK_b (w := W0) (by omega) _ D _ _ (by omega) hK' rfl rfl)) hB
  case stop =>
    rintro D cd pre W hD hpre ⟨⟨h4, h5⟩, ⟨rfl, p0, x, rfl, hx, hno⟩, h7⟩ hK
    have e4 := h4.cell
    have e5 := h5.cell
    obtain ⟨r, hr⟩ := hpre
    have hans : bufK l a t win l.length = x.1 := by rw [← hfin, ← hr]; exact bufX_some hno hx
    have HA : Hid (bufK l a t win l.length = x.1) := hans
    simp only [List.getLast?_append, List.getLast?_singleton, Option.some_or, Option.map_some, Option.getD_some] at h4 e4
    clear hans hfin hvw hv hch bA bT bW bR bO bL hrow hB0
    gi_wp2
    have hcell := cell_kept h4.cell (grownBy_putObj' _ D (.deferred none)) (fun r e => by cases e; exact ⟨_, hK, rfl⟩)
    have hcell2 := cell_kept h5.cell (grownBy_putObj' _ D (.deferred none)) (fun r e => by cases e; exact ⟨_, hK, rfl⟩)
    refine ⟨by simp, .inl ⟨_, _, rfl, run_takeDeferred hK, ?_⟩⟩
    refine ⟨.tuple #[.int .i64 x.1, .bool true], by simp [results, Try.results38, go_sem, hcell, hcell2], ?_, ?_⟩
    · rw [HA.out]
    · exact keptB hKW (h7.trans (belowK_b (w := W0) (by omega) _ D _ _ (by omega) hK rfl rfl)) hB
theorem ibuf (l : List MeantD) (a : ByteArray) (t win : Int) (v : Value) (w : World) (hv : MeantAt w v l) (hn : l.length ≤ 1048576) (hs : ∀ d ∈ l, d.2.1.size ≤ 1048576) (ha : a.size ≤ 1048576) :
    Calls Try.prog 38 #[v, .string a, .int .i64 t, .int .i64 win] w fun e w' => e = .returned (.tuple #[.int .i64 (bufA l a t win).1, .bool (bufA l a t win).2]) ∧ Kept w w' := by
  rcases Classical.em (BufOk l a t win) with h | h
  · rw [bufA_yes h]
    exact ibuf_yes l a t win v w hv hn hs ha h.1 h.2.1 h.2.2.1 h.2.2.2
  · exact ibuf_no l a t win v w hv hn hs ha h

end Go.Proofs.Ythkfpbknfjapaaa
