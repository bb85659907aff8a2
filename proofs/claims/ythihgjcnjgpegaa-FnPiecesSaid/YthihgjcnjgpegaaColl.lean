/-
  The timers of an iterator collected.
-/
import Derived.Test.YthihgjcnjgpegaaVals
import Derived.Test.YthihgjcnjgpegaaTo
namespace Go.Proofs.Ythihgjcnjgpegaa
open Go.ChangeShapes Go.WideShapes Go.ChangeAt Go.RowKit

open Go.Shelf
attribute [local go_sem] Oper.semAt_some
set_option maxRecDepth 100000
theorem keptOf {w w' : World} (h : Below w.heap.size w w') : Kept w w' := ⟨h.os, h.output, h.size, fun b hb _ => h.block b hb⟩
/-- A timer's own block. -/
def TBlock (W : World) (b : Nat) (x : TimerD) : Prop := W.heap[b]? = some (.cells (timerC x).toArray 46 (0, 0))
theorem TBlock.cell {W : World} {b : Nat} {x : TimerD} (h : TBlock W b x) (j : Nat) {v : Value} (hv : (timerC x)[j]? = some v) : W.cell? ⟨b, j, none⟩ = some v := by
  rw [cell_of_row W b j _ 46 (0, 0) h]
  simpa using hv
set_option maxHeartbeats 4000000 in
theorem appendSeq (Bs : Nat) (ps : List TimerD) (ao : Option Addr) (cap : Nat) (w : World) (hBs : w.cell? ⟨Bs, 0, none⟩ = some (.slice ao ps.length cap)) (hv : TimerAt w (.slice ao ps.length cap) ps) (hlen : ps.length ≤ 1048576) :
    Calls Try.prog 81 #[.slice none 0 0, .func (.func 69) #[] #[.pointer (some ⟨Bs, 0, none⟩)]] w fun e w' => ∃ v', e = .returned v' ∧ TimerO w' w.heap.size w'.heap.size v' ps ∧ Kept w w' := by
  obtain ⟨i0, hi, hz0, hz1, hz2⟩ := info_parts info46
  refine (callsIn_wide (n := 5)).1 ?_
  refine callsIn_of_wp_marks Try.func81 rfl trivial ?_ rfl
  simp only [Try.ntmps81, List.size_toArray, List.length_cons, List.length_nil, Nat.reduceAdd, Nat.reduceSub, Array.replicate_succ, Array.replicate_zero, List.push_toArray, List.append_toArray, List.nil_append, List.cons_append]
  gi_wp2
  have bO := Boxed.new w 23 (.slice none 0 0)
  have hB0 : Below w.heap.size w (w.alloc (.cells #[.slice none 0 0] 23)) := (Below.refl _ w).alloc (Nat.le_refl _) _
  have hsz : (w.alloc (.cells #[.slice none 0 0] 23)).heap.size = w.heap.size + 1 := by simp
  obtain ⟨W0, hW0⟩ : ∃ W0, w.alloc (.cells #[.slice none 0 0] 23) = W0 := ⟨_, rfl⟩
  rw [hW0] at bO hB0 hsz ⊢
  clear hW0
  have hBsw : Bs < w.heap.size := World.block_lt_of_cell? w _ hBs
  have hrow : ∀ A B, Bu w.heap.size (w.heap.size + 1) A B → TimerAt A (.slice ao ps.length cap) ps → TimerAt B (.slice ao ps.length cap) ps := by
    rintro A B hAB ⟨ao', cap', e, hc⟩
    cases e
    refine ⟨ao, cap, rfl, fun j x hx => ?_⟩
    obtain ⟨b, o, rfl, h1⟩ := hc j x hx
    obtain ⟨ao2, cap2, e2, hc2⟩ := hv
    cases e2
    obtain ⟨b2, o2, e3, h3⟩ := hc2 j x hx
    cases e3
    have hb := World.block_lt_of_cell? w _ h3
    dsimp only at hb
    exact ⟨b, o, rfl, hAB.cell (a := ⟨b, o + j, none⟩) (by dsimp only; omega) (by dsimp only; omega) h1⟩
  refine wpIn_rangeFunc_ownH rfl (by omega) (gf := 69) (lb := #[.pointer (some ⟨Bs, 0, none⟩)]) rfl trivial (enters_of Try.func69 (by kernel_rfl) rfl)
    (val_stops Fence.wide _ trivial rfl (by omega) w.heap.size (w.heap.size + 1) Bs ps ao cap hlen W0 (Kept.cell (keptOf hB0) hBs) (TimerAt.kept hv (keptOf hB0)) (by omega) hrow)
    Bu.trans (Bu.put (by omega)) (Below.refl _ _) (fun _ => rfl)
    (fun pre W => (∃ lv, Boxed W w.heap.size 23 lv ∧ W.ownsRow (w.heap.size + 1) 46 4 lv pre.length (pre.flatMap timerC) ∧ True) ∧ Below w.heap.size w W ∧ w.heap.size + 1 ≤ W.heap.size)
    (fun _ _ _ => False)
    (OwnFrom.and (Own.from (holdsRow_own (w.heap.size + 1) w.heap.size 23 46 4 (fun pre : List TimerD => pre.length) (fun pre : List TimerD => pre.flatMap timerC) (fun _ _ => True)) _) (OwnFrom.and (ownFrom_below (Nat.le_refl _) (by omega)) (fun _ _ _ _ hs hg _ => Nat.le_trans hs hg.size)))
    (fun _ _ _ _ _ hs _ _ => hs)
    ⟨⟨_, bO, World.ownsRow_nil _ _ _ _, trivial⟩, hB0, by omega⟩
    (fun x a' W => ∃ Bx, w.heap.size + 1 ≤ Bx ∧ TBlock W Bx x ∧ a' = { tmps := #[.slice none 0 0, .func (.func 69) #[] #[.pointer (some ⟨Bs, 0, none⟩)], .pointer (some ⟨w.heap.size, 0, none⟩), undef, .slice none 0 0, .pointer (some ⟨Bx, 0, none⟩), .func (.func 69) #[] #[.pointer (some ⟨Bs, 0, none⟩)], tv x, undef, undef, undef, undef, undef], defers := [] })
    (fun x a' _ A B row hs hg hr => ?hAx) ?assign ?body ?done ?stop
  case hAx =>
    obtain ⟨Bx, h1, h2, h3⟩ := hs
    refine ⟨Bx, h1, ?_, h3⟩
    refine (hg.block Bx (Array.getElem?_eq_some_iff.1 h2).1 (fun e => ?_)).trans h2
    obtain ⟨_, o, ho, hc⟩ := hr Bx e.symm
    rw [show A.heap[Bx]? = _ from h2] at ho
    cases ho
    cases hc
  case assign =>
    rintro lp pre ⟨xa, xb, xc, xd⟩ W K hI hK
    obtain ⟨⟨lv, hb, hr, -⟩, hB, hN⟩ := hI
    dsimp only [tv]
    gi_wp2
    exact hK _ _ ((KeepsOthers.alloc _ _).from _) ⟨by simp, fun b hb' _ => Below.heap_alloc W _ b (by omega)⟩ ⟨⟨lv, hb.alloc _, hr.alloc _, trivial⟩, hB.alloc hB.size _, by simp; omega⟩ ⟨W.heap.size, hN, World.alloc_heap_new W _, rfl⟩
  case body =>
    rintro lp pre ⟨xa, xb, xc, xd⟩ a' W hl ⟨r, hr0⟩ ⟨⟨lv, hbx, hrow', -⟩, hB, hN⟩ ⟨Bx, hBx, hNB, rfl⟩ hlt
    have hc := hbx.cell
    have c0 := hNB.cell 0 rfl
    have c1 := hNB.cell 1 rfl
    have c2 := hNB.cell 2 rfl
    have c3 := hNB.cell 3 rfl
    dsimp only at c0 c1 c2 c3
    dsimp only [tv]
    have hpl : pre.length + 1 ≤ 1048576 := by omega
    gi_wp2_with (gi_at_builtin; refine wpListIn_append_own _ rfl _ _ 23 rfl (w.heap.size + 1) 46 i0 (.agg #[.int .i64 0, .int .i64 0, .int .i64 0, .int .i64 0]) 4 32 Try.underlying23 hi hz0 hz1 hz2 rfl (by decide) _ _ _ rfl (hrow'.alloc _) ⟨W.heap.size, 0, none⟩ 1 1 (timerC (xa, xb, xc, xd)) rfl rfl (news4 (Loc.new W (timerC (xa, xb, xc, xd)) 46)) (one4 _) (by unfold maxLen; omega) (by omega) (by simp; omega) ?_; intro v' w1 hown' hgrow _; obtain ⟨g', cap', rfl⟩ := ownsRow_succ hown'; obtain ⟨hv1, hv2, hr2, hk2, hb2⟩ := hbx.appended (by decide) (own_base hrow' (by omega)) hB.size (Nat.le_refl _) (own_base hown' (by omega)) hgrow; have hc1 := hv1.cell; have hf1 := hv1.frozen)
    refine ⟨hk2.from _, ⟨hb2.size, fun b hb hne => ?_⟩, ⟨⟨_, hv2, ?_⟩, hB.trans hb2, Nat.le_trans hN hb2.size⟩⟩
    · simp only [World.setCell, Array.getElem?_modify]
      rw [if_neg (fun e => hne e.symm), hgrow.block b (by simp; omega) (fun e => ?_), Below.heap_alloc W _ b (by omega)]
      have := own_lt hrow' e.symm
      omega
    · have h3 := hown'.kept (grownBy_setCell' w1 w.heap.size (.slice (some ⟨g', 0, none⟩) (pre.length + 1) cap')) (.inr (hv1.not_row (by decide) hown').symm)
      simpa using h3
  case done =>
    rintro D ys W hD rfl ⟨⟨lv, hbx, hrow', -⟩, hB, hN⟩ hK
    have hc := hbx.cell
    obtain ⟨ao', cap', hf, _⟩ := own_form hrow'
    subst hf
    gi_wp2
    have hDg : (Value.slice ao' ys.length cap').ownBlock ≠ some D := fun e => by
      rcases hrow'.2 with ⟨hf, _⟩ | ⟨g2, c2, cur, hf, _, hgg, _⟩
      · rw [hf] at e
        cases e
      · rw [hf] at e
        cases e
        rw [hK] at hgg
        cases hgg
    refine ⟨by simp, .inl ⟨_, _, rfl, run_takeDeferred hK, ?_⟩⟩
    refine ⟨_, results_tmp rfl _ _ _, _, rfl, ?_, ?_⟩
    · exact (RowO.top (hrow'.kept (grownBy_putObj' W D _) (.inr hDg))).mono (by omega) (Nat.le_refl _)
    · exact keptOf (hB.trans (belowK_b (w := w) (Nat.le_refl _) _ D _ _ (by omega) hK rfl rfl))
  case stop =>
    rintro D c pre W _ _ h _
    exact h.elim

theorem collect (Bs : Nat) (ps : List TimerD) (ao : Option Addr) (cap : Nat) (w : World) (hBs : w.cell? ⟨Bs, 0, none⟩ = some (.slice ao ps.length cap)) (hv : TimerAt w (.slice ao ps.length cap) ps) (hlen : ps.length ≤ 1048576) :
    Calls Try.prog 67 #[.func (.func 69) #[] #[.pointer (some ⟨Bs, 0, none⟩)]] w fun e w' => ∃ v', e = .returned v' ∧ TimerO w' w.heap.size w'.heap.size v' ps ∧ Kept w w' := by
  go_enter Try.func67, Try.ntmps67
  repeat (first | go_values | go_skip | go_guarded | go_step | go_upon)
  go_at_call 81
  refine (appendSeq Bs ps ao cap _ hBs hv hlen).mono ?_
  rintro e w1 ⟨v1, rfl, o1, k1⟩
  obtain ⟨ao1, cap1, hfm⟩ := o1.form
  subst hfm
  dsimp only
  repeat (first | go_values | go_skip | go_guarded | go_step | go_upon)
  go_ret
  exact ⟨_, rfl, o1, k1⟩
theorem valuesT (ao : Option Addr) (n cap : Nat) (w : World) :
    Calls Try.prog 44 #[.slice ao n cap] w fun e w' => e = .returned (.func (.func 69) #[] #[.pointer (some ⟨w.heap.size, 0, none⟩)]) ∧ w' = w.alloc (.cells #[.slice ao n cap] 23) := by
  go_enter Try.func44, Try.ntmps44
  repeat (first | go_values | go_skip | go_guarded | go_step | go_upon)
  go_ret
  exact ⟨rfl, rfl⟩

end Go.Proofs.Ythihgjcnjgpegaa
