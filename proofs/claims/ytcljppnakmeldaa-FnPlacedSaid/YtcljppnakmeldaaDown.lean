/-
  The nodes from the topmost one down: what the program's downTo answers.
-/
import Derived.Test.YtcljppnakmeldaaUp
import Derived.Test.YtcljppnakmeldaaShelf
namespace Go.Proofs.Ytcljppnakmeldaa
open Go.ChangeShapes Go.WideShapes Go.ChangeAt Go.RowKit Go.Shelf Go.Sort

attribute [local go_sem] Oper.semAt_some

theorem node_holds {l : List NodeD} {w : World} {lo hi g cap : Nat} (ho : NodeO w lo hi (.slice (some ⟨g, 0, none⟩) l.length cap) l) : HoldsK nodeC 6 w g 0 l.toArray := by
  intro j hj
  simp at hj
  have hi' : j / 6 < l.length := by omega
  obtain ⟨hc, hf⟩ := own_get 6 nodeC nodeC_len (by omega) ho (List.getElem?_eq_getElem hi')
  refine ⟨?_, hf _⟩
  have hk : j % 6 < (nodeC l[j / 6]).length := by rw [nodeC_len]; omega
  have := hc (j % 6) _ (List.getElem?_eq_getElem hk)
  rw [show 0 + j = j / 6 * 6 + j % 6 by omega, this]
  rw [get_flatK nodeC 6 l.toArray j (by simpa using hj)]
  simp [hi', hk]
set_option maxRecDepth 100000 in
theorem reverseNodes (l : List NodeD) (w : World) (lo hi g cap : Nat) (ho : NodeO w lo hi (.slice (some ⟨g, 0, none⟩) l.length cap) l) (hl : l.length ≤ 1048576) :
    Calls Try.prog 79 #[.slice (some ⟨g, 0, none⟩) l.length cap] w fun e w' => e = .returned (.tuple #[]) ∧ NodeAt w' (.slice (some ⟨g, 0, none⟩) l.length cap) l.reverse ∧ w'.os = w.os ∧ w'.tape = w.tape ∧ w'.output = w.output ∧ w'.heap.size = w.heap.size ∧ ∀ b, b ≠ g → w'.heap[b]? = w.heap[b]? := by
  have hH := node_holds ho
  have h := AnyQ.slices_Reverse Try.reverseNode 6 Try.isAgg36 Try.sizeOf36 nodeC nodeC_len (fun x v hv => by simp [nodeC] at hv; rcases hv with rfl | rfl | rfl | rfl | rfl | rfl <;> rfl) g 0 cap l.toArray w hH (by simp; omega)
  simp only [List.size_toArray] at h
  refine Calls.mono h ?_
  rintro e w' ⟨rfl, n, rfl⟩
  refine ⟨rfl, ?_, ?_⟩
  · have hh := holdsK_putRowK nodeC 6 (Sort.ahead w n) g 0 l.toArray l.toArray.reverse (holdsK_ahead nodeC 6 w n g 0 l.toArray hH) (by simp)
    unfold NodeAt
    rw [List.length_reverse]
    refine ⟨_, cap, rfl, fun j x hx => ⟨g, 0, rfl, ?_⟩⟩
    have hj := (List.getElem?_eq_some_iff.1 hx).1
    rw [flat_len 6 nodeC nodeC_len] at hj
    simp at hj
    have hi' : j / 6 < l.reverse.length := by simp; omega
    have hg := flat_get 6 nodeC nodeC_len l.reverse (j / 6) (j % 6) _ (List.getElem?_eq_getElem hi') (by omega)
    rw [Nat.div_add_mod] at hg
    rw [hg] at hx
    have hc := (HoldsK.cell hh (i := j / 6) (c := j % 6) (by simpa using hi') (by omega)).1
    rw [show 0 + j = 0 + j / 6 * 6 + j % 6 by omega, hc]
    have hk : j % 6 < (nodeC (l.reverse[j / 6])).length := by rw [nodeC_len]; omega
    rw [List.getElem?_eq_getElem hk] at hx
    cases hx
    simp [show j / 6 < l.length by simpa using hi']
    rw [List.getElem?_eq_getElem (by rw [nodeC_len]; omega)]
    rfl
  · refine ⟨rfl, rfl, rfl, by simp [putRowK, Sort.ahead], fun b hb => ?_⟩
    simp only [putRowK, putRow, mapBlock, Sort.ahead, Array.getElem?_modify]
    rw [if_neg (fun e => hb e.symm)]


theorem info36 : (Try.prog.info? 36).map (fun i => (i.zero, i.size, i.bytes)) = some (some (.agg #[.string ByteArray.empty, .int .i64 0, .int .i64 0, .int .i64 0, .int .i64 0, .bool false]), 6, 56) := by kernel_rfl
theorem Below.keptOf {w w' : World} (h : Below w.heap.size w w') : Kept w w' := ⟨h.os, h.output, h.size, fun b hb _ => h.block b hb⟩
theorem news_node (W : World) (b : Nat) (x : NodeD) (h : W.heap[b]? = some (.cells (nodeC x).toArray 36 (0, 0))) : ∀ j u, (nodeC x)[j]? = some u → W.cell? ((⟨b, 0, none⟩ : Addr).add j) = some u := fun j u hu => by
  rw [Go.WideShapes.add_plain, Nat.zero_add, cell_of_row W b j _ 36 (0, 0) h]
  simpa using hu
theorem one_node (x : NodeD) : ∀ u ∈ nodeC x, u.oneCell' = true := fun v hv => by simp [nodeC] at hv; rcases hv with rfl | rfl | rfl | rfl | rfl | rfl <;> rfl
/-- A node's own block. -/
def NBlock (W : World) (b : Nat) (x : NodeD) : Prop := W.heap[b]? = some (.cells (nodeC x).toArray 36 (0, 0))
theorem NBlock.cell {W : World} {b : Nat} {x : NodeD} (h : NBlock W b x) (j : Nat) {v : Value} (hv : (nodeC x)[j]? = some v) : W.cell? ⟨b, j, none⟩ = some v := by
  rw [cell_of_row W b j _ 36 (0, 0) h]
  simpa using hv
def rows (pre : List UpE) : List NodeD := pre.map (·.2)

set_option maxRecDepth 100000 in
set_option maxHeartbeats 4000000 in
theorem downTo (l : List NodeD) (v : Value) (a : Int) (xs : List UpE) (hch : Chain l a xs) (w : World) (hv : NodeAt w v l) (hlen : xs.length ≤ 1048576) :
    Calls Try.prog 70 #[v, .int .i64 a] w fun e w' => ∃ v', e = .returned v' ∧ NodeAt w' v' (rows xs).reverse ∧ (∀ g, v'.ownBlock = some g → w.heap.size ≤ g) ∧ Kept w w' := by
  obtain ⟨ao, cap, hsl⟩ := row_nil hv
  subst hsl
  obtain ⟨i0, hi, hz0, hz1, hz2⟩ := info_parts info36
  refine (callsIn_wide (n := 5)).1 ?_
  refine callsIn_of_wp_marks Try.func70 rfl trivial ?_ rfl
  simp only [Try.ntmps70, List.size_toArray, List.length_cons, List.length_nil, Nat.reduceAdd, Nat.reduceSub, Array.replicate_succ, Array.replicate_zero, List.push_toArray, List.append_toArray, List.nil_append, List.cons_append]
  gi_wp2_with (refine ⟨trivial, ?_⟩; gi_at_call 75; refine (up_in _ _ trivial rfl _ _ _ _ _).mono ?_; rintro e w' ⟨rfl, rfl⟩)
  have bO := ((Boxed.new w 29 (.slice none 0 0)).alloc (.cells #[.slice ao l.length cap] 29)).alloc (.cells #[.int .i64 a] 3)
  have bL := (Boxed.new (w.alloc (.cells #[.slice none 0 0] 29)) 29 (.slice ao l.length cap)).alloc (.cells #[.int .i64 a] 3)
  have bA := Boxed.new ((w.alloc (.cells #[.slice none 0 0] 29)).alloc (.cells #[.slice ao l.length cap] 29)) 3 (.int .i64 a)
  simp only [World.size_alloc] at bL bA
  have hB0 : Below w.heap.size w (((w.alloc (.cells #[.slice none 0 0] 29)).alloc (.cells #[.slice ao l.length cap] 29)).alloc (.cells #[.int .i64 a] 3)) := (((Below.refl _ w).alloc (Nat.le_refl _) _).alloc (by simp) _).alloc (by simp; omega) _
  have hsz : (((w.alloc (.cells #[.slice none 0 0] 29)).alloc (.cells #[.slice ao l.length cap] 29)).alloc (.cells #[.int .i64 a] 3)).heap.size = w.heap.size + 3 := by simp
  obtain ⟨W0, hW0⟩ : ∃ W0, ((w.alloc (.cells #[.slice none 0 0] 29)).alloc (.cells #[.slice ao l.length cap] 29)).alloc (.cells #[.int .i64 a] 3) = W0 := ⟨_, rfl⟩
  rw [hW0] at bO bL bA hB0 hsz ⊢
  clear hW0
  have hrow : ∀ A B, Bu w.heap.size (w.heap.size + 3) A B → NodeAt A (.slice ao l.length cap) l → NodeAt B (.slice ao l.length cap) l := by
    rintro A B hAB ⟨ao', cap', e, hc⟩
    cases e
    refine ⟨ao, cap, rfl, fun j x hx => ?_⟩
    obtain ⟨b, o, rfl, h1⟩ := hc j x hx
    obtain ⟨ao2, cap2, e2, hc2⟩ := hv
    cases e2
    obtain ⟨b2, o2, e3, h3⟩ := hc2 j x hx
    cases e3
    have hb := World.block_lt_of_cell? w _ h3
    dsimp only at hb
    exact ⟨b, o, rfl, hAB.cell (a := ⟨b, o + j, none⟩) (by dsimp only; omega) (by dsimp only; omega) h1⟩
  refine wpIn_rangeFunc_ownH rfl (by omega) (gf := 80) (lb := #[.pointer (some ⟨w.heap.size + 1 + 1, 0, none⟩), .pointer (some ⟨w.heap.size + 1, 0, none⟩)]) rfl trivial (enters_of Try.func80 (by kernel_rfl) rfl)
    (up_stops Fence.wide _ trivial rfl (by omega) w.heap.size (w.heap.size + 3) (w.heap.size + 1 + 1) (w.heap.size + 1) l ao cap a xs hch W0 bA.cell bL.cell (NodeAt.kept hv (Below.keptOf hB0)) (by omega) (by omega) hrow)
    Bu.trans (Bu.put (by omega)) (Below.refl _ _) (fun _ => rfl)
    (fun pre W => (∃ lv, Boxed W w.heap.size 29 lv ∧ W.ownsRow (w.heap.size + 3) 36 6 lv (rows pre).length ((rows pre).flatMap nodeC) ∧ True) ∧ Below w.heap.size w W ∧ w.heap.size + 3 ≤ W.heap.size)
    (fun _ _ _ => False)
    (OwnFrom.and (Own.from (holdsRow_own (w.heap.size + 3) w.heap.size 29 36 6 (fun pre => (rows pre).length) (fun pre => (rows pre).flatMap nodeC) (fun _ _ => True)) _) (OwnFrom.and (ownFrom_below (Nat.le_refl _) (by omega)) (fun _ _ _ _ hs hg _ => Nat.le_trans hs hg.size)))
    (fun _ _ _ _ _ hs _ _ => hs)
    ⟨⟨_, bO, World.ownsRow_nil _ _ _ _, trivial⟩, hB0, by omega⟩
    (fun x a' W => ∃ Bx, w.heap.size + 3 ≤ Bx ∧ NBlock W Bx x.2 ∧ a' = { tmps := #[.slice ao l.length cap, .int .i64 a, undef, undef, .slice none 0 0, .pointer (some ⟨w.heap.size, 0, none⟩), undef, .pointer (some ⟨Bx, 0, none⟩), .slice ao l.length cap, .int .i64 a, .func (.func 80) #[] #[.pointer (some ⟨w.heap.size + 1 + 1, 0, none⟩), .pointer (some ⟨w.heap.size + 1, 0, none⟩)], .int .i64 x.1, nv x.2, undef, undef, undef, undef, undef, undef, undef], defers := [] })
    (fun x a' _ A B row hs hg hr => ?hAx) ?assign ?body ?done ?stop
  case hAx =>
    obtain ⟨Bx, h1, h2, h3⟩ := hs
    refine ⟨Bx, h1, ?_, h3⟩
    refine (hg.block Bx (Array.getElem?_eq_some_iff.1 h2).1 (fun e => ?_)).trans h2
    obtain ⟨_, o, ho, hc⟩ := hr Bx e.symm
    rw [show A.heap[Bx]? = _ from h2] at ho
    cases ho
    cases hc
  case assign =>
    rintro lp pre ⟨xi, nm, up, X, Y, t, f⟩ W K hI hK
    obtain ⟨⟨lv, hb, hr, -⟩, hB, hN⟩ := hI
    gi_wp2
    exact hK _ _ ((KeepsOthers.alloc _ _).from _) ⟨by simp, fun b hb' _ => Below.heap_alloc W _ b (by omega)⟩ ⟨⟨lv, hb.alloc _, hr.alloc _, trivial⟩, hB.alloc hB.size _, by simp; omega⟩ ⟨W.heap.size, hN, World.alloc_heap_new W _, rfl⟩
  case body =>
    rintro lp pre ⟨xi, nm, up, X, Y, t, f⟩ a' W hl ⟨r, hr0⟩ ⟨⟨lv, hbx, hrow', -⟩, hB, hN⟩ ⟨Bx, hBx, hNB, rfl⟩ hlt
    dsimp only at hNB
    have hc := hbx.cell
    have c0 := hNB.cell 0 rfl
    have c1 := hNB.cell 1 rfl
    have c2 := hNB.cell 2 rfl
    have c3 := hNB.cell 3 rfl
    have c4 := hNB.cell 4 rfl
    have c5 := hNB.cell 5 rfl
    dsimp only at c0 c1 c2 c3 c4 c5
    have hpl : (rows pre).length + 1 ≤ 1048576 := by
      have : (rows pre).length = pre.length := by simp [rows]
      omega
    gi_wp2_with (gi_at_builtin; refine wpListIn_append_own _ rfl _ _ 29 rfl (w.heap.size + 3) 36 i0 (.agg #[.string ByteArray.empty, .int .i64 0, .int .i64 0, .int .i64 0, .int .i64 0, .bool false]) 6 56 Try.underlying29 hi hz0 hz1 hz2 rfl (by decide) _ _ _ rfl (hrow'.alloc _) ⟨W.heap.size, 0, none⟩ 1 1 (nodeC (nm, up, X, Y, t, f)) rfl rfl (news_node _ _ _ (World.alloc_heap_new W _)) (one_node _) (by unfold maxLen; omega) (by omega) (by simp; omega) ?_; intro v' w1 hown' hgrow _; obtain ⟨g', cap', rfl⟩ := ownsRow_succ hown'; obtain ⟨hv1, hv2, hr2, hk2, hb2⟩ := hbx.appended (by decide) (own_base hrow' (by omega)) hB.size (Nat.le_refl _) (own_base hown' (by omega)) hgrow; have hc1 := hv1.cell; have hf1 := hv1.frozen)
    refine ⟨hk2.from _, ⟨hb2.size, fun b hb hne => ?_⟩, ⟨⟨_, hv2, ?_⟩, hB.trans hb2, Nat.le_trans hN hb2.size⟩⟩
    · simp only [World.setCell, Array.getElem?_modify]
      rw [if_neg (fun e => hne e.symm), hgrow.block b (by simp; omega) (fun e => ?_), Below.heap_alloc W _ b (by omega)]
      have := own_lt hrow' e.symm
      omega
    · have h3 := hown'.kept (grownBy_setCell' w1 w.heap.size (.slice (some ⟨g', 0, none⟩) ((rows pre).length + 1) cap')) (.inr (hv1.not_row (by decide) hown').symm)
      simpa [rows] using h3
  case done =>
    rintro D ys W hD rfl ⟨⟨lv, hbx, hrow', -⟩, hB, hN⟩ hK
    have hc := hbx.cell
    cases hys : rows ys with
    | nil =>
      rw [hys] at hrow'
      obtain ⟨ao', cap', hf, _⟩ := own_form hrow'
      simp only [List.length_nil] at hf
      subst hf
      gi_wp2_with (refine ⟨trivial, ?_⟩; gi_at_call 79; refine (callsIn_wide.2 (AnyQ.slices_Reverse_empty Try.reverseNode ao' cap' _)).mono ?_; rintro e w' ⟨rfl, rfl⟩)
      refine ⟨by simp, .inl ⟨_, _, rfl, run_takeDeferred hK, ?_⟩⟩
      refine ⟨_, results_tmp rfl _ _ _, _, rfl, ?_, ?_, ?_⟩
      · exact ⟨ao', cap', by simp [hys], fun j x hx => by simp [hys] at hx⟩
      · intro g hg
        have := (own_lt hrow' (g := g) hg).1
        omega
      · exact Below.keptOf (hB.trans (belowK_b (w := w) (Nat.le_refl _) _ D _ _ (by omega) hK rfl rfl))
    | cons y0 yr =>
      rw [hys] at hrow'
      obtain ⟨g', cap', hf⟩ := ownsRow_succ hrow'
      subst hf
      have hg' := (own_lt hrow' (g := g') rfl).1
      gi_wp2_with (refine ⟨trivial, ?_⟩; gi_at_call 79; refine (callsIn_wide.2 (reverseNodes (y0 :: yr) _ (w.heap.size + 3) W.heap.size g' cap' (RowO.top hrow') (by have := congrArg List.length hys; simp [rows] at this; simp; omega))).mono ?_; rintro e w' ⟨rfl, hat, ho1, ht1, ho2, hz, hbk⟩; have hc2 : w'.cell? ⟨w.heap.size, 0, none⟩ = some (.slice (some ⟨g', 0, none⟩) (yr.length + 1) cap') := ((World.cell?_of_block (hbk w.heap.size (by omega))).trans hc))
      have hDg : D ≠ g' := fun e => by
        subst e
        rcases hrow'.2 with ⟨hf, _⟩ | ⟨g2, c2, cur, hf, _, hgg, _⟩
        · cases hf
        · cases hf
          rw [hK] at hgg
          cases hgg
      have hK' : w'.heap[D]? = some (.deferred (some [])) := (hbk D hDg).trans hK
      refine ⟨by simp, .inl ⟨_, _, rfl, run_takeDeferred hK', ?_⟩⟩
      refine ⟨_, results_tmp rfl _ _ _, _, rfl, ?_, ?_, ?_⟩
      · rw [hys]
        obtain ⟨ao2, cap2, e2, hc3⟩ := hat
        refine ⟨ao2, cap2, ?_, fun j x hx => ?_⟩
        · simpa using e2
        · obtain ⟨b, o, e3, h3⟩ := hc3 j x hx
          refine ⟨b, o, e3, ?_⟩
          rw [e3] at e2
          simp at e2
          rw [← h3]
          refine World.cell?_of_block (World.putObj_heap_other ?_)
          obtain ⟨⟨rfl, _⟩, _⟩ := e2
          exact fun e => hDg e.symm
      · intro g hg
        have := (own_lt hrow' (g := g) hg).1
        omega
      · refine Below.keptOf (hB.trans (.trans ⟨ho1, ht1, ho2, by rw [hz]; exact Nat.le_refl _, fun b hb => hbk b (by omega)⟩ (belowK_b (w := w) (Nat.le_refl _) _ D _ _ (by omega) hK' rfl rfl)))
  case stop =>
    rintro D c pre W _ _ h _
    exact h.elim
end Go.Proofs.Ytcljppnakmeldaa
