/-
  All pairs that touch.
-/
import Derived.Test.YtfibikkbhbmfkaaFigs9
import Derived.Test.YtfibikkbhbmfkaaPrs9
namespace Go.Proofs.Ytfibikkbhbmfkaa
open Go.ChangeShapes Go.WideShapes Go.ChangeAt Go.RowKit

set_option maxRecDepth 100000
set_option linter.unusedVariables false
set_option linter.unusedSimpArgs false

theorem cell_lt {w : World} {b o : Nat} {x : Value} (h : w.cell? ⟨b, o, none⟩ = some x) : b < w.heap.size := by
  rcases Nat.lt_or_ge b w.heap.size with k | k
  · exact k
  · simp [World.cell?, Array.getElem?_eq_none k] at h
theorem shapes_len {ps : List ShapeD} (h : shapesB ps = true) : ps.length ≤ 40 := by simp [shapesB] at h; exact h.1
theorem shapes_good {ps : List ShapeD} (h : shapesB ps = true) {i : Nat} {p : ShapeD} (hp : ps[i]? = some p) : ShapeP p := by
  simp [shapesB] at h
  have := h.2 _ _ _ _ _ (List.mem_of_getElem? hp)
  simpa [shapeB] using this
set_option maxHeartbeats 8000000 in
theorem spairs (ps : List ShapeD) (v : Value) (w : World) (hv : ShapeAt w v ps) (hg : shapesB ps = true) :
    Calls Try.prog 42 #[v] w fun e w' => ∃ v', e = .returned v' ∧ PairO w' w.heap.size w'.heap.size v' (allT ps ps.length) ∧ Kept w w' := by
  have hn := shapes_len hg
  have HG : Hid (∀ i p, ps[i]? = some p → ShapeP p) := fun i p => shapes_good hg
  have HV : Hid (ShapeAt w v ps) := hv
  obtain ⟨ao, cap, hsl⟩ := row_nil hv
  subst hsl
  clear hv hg
  obtain ⟨i0, hi0, hz0, hz1, hz2⟩ := info_parts infoPair
  go_enter Try.func42, Try.ntmps42
  repeat (first | go_values | go_skip | go_guarded | go_step | go_upon)
  go_loopw [3, 8] (fun e i wr => ∃ (j : Nat) (l : List PairD) (ao' : Option Addr) (c' : Nat), j ≤ ps.length ∧ i = .int .i64 j ∧ allT ps j = l ∧ e = .slice ao' l.length c' ∧ wr.ownsRow w.heap.size 70 2 (.slice ao' l.length c') l.length (l.flatMap pairC) ∧ Kept w wr) (fun e i _ => ps.length - (intOf i).toNat)
  case atStart => exact ⟨0, [], none, 0, by omega, rfl, rfl, rfl, World.ownsRow_nil _ _ _ _, But.refl _ _ _⟩
  case round =>
    obtain ⟨j, l, ao', c', hj, rfl, hl, rfl, hown, hkp⟩ := hrel
    have HO : Hid (wr.ownsRow w.heap.size 70 2 (.slice ao' l.length c') l.length (l.flatMap pairC)) := hown
    have HK : Hid (Kept w wr) := hkp
    have HL : Hid (allT ps j = l) := hl
    have hll : l.length ≤ 40 * j := by rw [← hl]; exact allT_len hn j
    clear hown hkp hl
    by_cases hlt : j < ps.length
    · have e1 := IntWalk.i64_in (n := (j : Int) + 1) (by omega)
      repeat (first | go_values | go_skip | go_guarded | go_step | go_upon)
      go_loopw [3, 5] (fun e i wr => ∃ (q : Nat) (l : List PairD) (ao' : Option Addr) (c' : Nat), j + 1 ≤ q ∧ q ≤ ps.length ∧ i = .int .i64 q ∧ allT ps j ++ rowT ps j (q - (j + 1)) = l ∧ e = .slice ao' l.length c' ∧ wr.ownsRow w.heap.size 70 2 (.slice ao' l.length c') l.length (l.flatMap pairC) ∧ Kept w wr) (fun e i _ => ps.length - (intOf i).toNat)
      case atStart => exact ⟨j + 1, l, ao', c', Nat.le_refl _, hlt, by simp, by rw [HL.out]; simp [rowT], rfl, HO.out, HK.out⟩
      case round =>
        clear HO HK HL hll
        obtain ⟨q, l, ao', c', hq1, hq, rfl, hl, rfl, hown, hkp⟩ := hrel
        have HO : Hid (wr.ownsRow w.heap.size 70 2 (.slice ao' l.length c') l.length (l.flatMap pairC)) := hown
        have HK : Hid (Kept w wr) := hkp
        have HL : Hid (allT ps j ++ rowT ps j (q - (j + 1)) = l) := hl
        have hll : l.length ≤ 40 * j + 40 := by
          rw [← hl, List.length_append]
          have := allT_len hn j
          have := rowT_len ps j (q - (j + 1))
          omega
        have hwz := hkp.size
        clear hown hl
        by_cases hqt : q < ps.length
        · obtain ⟨p, hp⟩ : ∃ p, ps[j]? = some p := ⟨_, List.getElem?_eq_getElem hlt⟩
          obtain ⟨p2, hp2⟩ : ∃ p, ps[q]? = some p := ⟨_, List.getElem?_eq_getElem hqt⟩
          obtain ⟨bb, o, cap', e, c0, c1, c2, c3, c4⟩ := shape_get (HV.out.kept hkp) hp
          cases e
          obtain ⟨bb2, o2, cap2, e, d0, d1, d2, d3, d4⟩ := shape_get (HV.out.kept hkp) hp2
          cases e
          have hR : rowT ps j (q + 1 - (j + 1)) = rowT ps j (q - (j + 1)) ++ tf ps j q := by
            rw [show q + 1 - (j + 1) = (q - (j + 1)) + 1 by omega, rowT_succ, show j + 1 + (q - (j + 1)) = q by omega]
          have HR : Hid (rowT ps j (q + 1 - (j + 1)) = rowT ps j (q - (j + 1)) ++ tf ps j q) := hR
          have HP1 : Hid (ps[j]? = some p) := hp
          have HP2 : Hid (ps[q]? = some p2) := hp2
          have HS1 : Hid (ShapeP p) := HG.out _ _ hp
          have HS2 : Hid (ShapeP p2) := HG.out _ _ hp2
          clear hp hp2 hkp hR
          obtain ⟨k, x, y, a, b⟩ := p
          obtain ⟨m, u, v, c, e⟩ := p2
          dsimp only at c0 c1 c2 c3 c4 d0 d1 d2 d3 d4
          have hbb := cell_lt c0
          cases ht : decide (TouchP (k, x, y, a, b) (m, u, v, c, e))
          · have HE : Hid (tf ps j q = []) := tf_no HP1.out HP2.out ht
            repeat (first | go_values | go_skip | go_guarded | go_step | go_upon)
            refine wp_region_kept (by kernel_rfl) (by kernel_rfl) ?_
            have hcc := KW.cell_eq wr
            repeat (go_big_quiet_step (first | (go_at_call 39; exact kw_call (calls_bool ht (stouch0 _ _ _ _ _ _ _ _ _ _ _ HS1.out HS2.out)))))
            refine wpQuiet_nil ?_
            rintro w5 ⟨⟨w6, k5⟩, h5⟩
            change w5 = w6 at h5
            subst h5
            have HK5 : Hid (Kept wr w5) := k5
            clear hcc k5 c0 c1 c2 c3 c4 d0 d1 d2 d3 d4
            repeat (first | go_values | go_skip | go_guarded | go_step | go_upon)
            refine ⟨⟨q + 1, l, ao', c', by omega, hqt, by go_num, ?_, rfl, own_kept HO.out HK5.out, HK.out.trans HK5.out⟩, by simp [intOf]; omega⟩
            rw [HR.out, HE.out, List.append_nil]
            exact HL.out
          · have HE : Hid (tf ps j q = [((j : Int), (q : Int))]) := tf_yes HP1.out HP2.out ht
            repeat (first | go_values | go_skip | go_guarded | go_step | go_upon)
            refine wp_region_kept (by kernel_rfl) (by kernel_rfl) ?_
            have hcc := KW.cell_eq wr
            repeat (go_big_quiet_step (first | (go_at_call 39; exact kw_call (calls_bool ht (stouch0 _ _ _ _ _ _ _ _ _ _ _ HS1.out HS2.out)))))
            refine wpQuiet_nil ?_
            rintro w5 ⟨⟨w6, k5⟩, h5⟩
            change w5 = w6 at h5
            subst h5
            have HK5 : Hid (Kept wr w5) := k5
            clear hcc k5 c0 c1 c2 c3 c4 d0 d1 d2 d3 d4
            have HO1 : Hid (w5.ownsRow w.heap.size 70 2 (.slice ao' l.length c') l.length (l.flatMap pairC)) := own_kept HO.out HK5.out
            have HK1 : Hid (Kept w w5) := HK.out.trans HK5.out
            have hw1 := HK1.out.size
            clear HO HK HK5
            repeat (first
              | (at_builtin
                 refine wpList_append_own _ rfl _ _ 36 rfl w.heap.size 70 i0 (.agg #[.int .i64 0, .int .i64 0]) 2 16 Try.underlying36 hi0 hz0 hz1 hz2 rfl (by decide) _ _ _ rfl (own_kept HO1.out ((But.refl _ _ w5).alloc _)) ⟨w5.heap.size, 0, none⟩ 1 1 (pairC ((j : Int), (q : Int))) rfl rfl (news_pair (Loc.new w5 (pairC ((j : Int), (q : Int))) 70)) (one_pair _) (by unfold maxLen; omega) (by omega) (by simp; omega) ?_
                 intro v' w7 hown' hgrow _
                 obtain ⟨ao5, cap5, hf5, _⟩ := own_form hown'
                 subst hf5
                 have HK5 : Hid (Kept w w7) := (HK1.out.alloc _).grown hgrow (by intro x hx; have := own_lt HO1.out hx; omega)
                 have HW : Hid (w7.ownsRow w.heap.size 70 2 (.slice ao5 (l.length + 1) cap5) (l.length + 1) (l.flatMap pairC ++ pairC ((j : Int), (q : Int)))) := hown'
                 clear hgrow hown')
              | go_values | go_skip | go_guarded | go_step | go_upon)
            refine ⟨⟨q + 1, l ++ [((j : Int), (q : Int))], ao5, cap5, by omega, hqt, by go_num, ?_, by simp, by simpa [List.flatMap_append, pairC] using HW.out, HK5.out⟩, by simp [intOf]; omega⟩
            rw [HR.out, HE.out, ← List.append_assoc, HL.out]
        · have hqe : q = ps.length := by omega
          subst hqe
          repeat (first | go_values | go_skip | go_guarded | go_step | go_upon)
          refine ⟨⟨j + 1, l, ao', c', hlt, by go_num, ?_, rfl, HO.out, HK.out⟩, by simp [intOf]; omega⟩
          rw [allT_succ]
          exact HL.out
    · have hje : j = ps.length := by omega
      subst hje
      repeat (first | go_values | go_skip | go_guarded | go_step | go_upon)
      refine bodyPost_ret (v := .slice ao' l.length c') (by simp [results, Try.results42, go_sem]) rfl ?_
      refine ⟨_, rfl, ?_, HK.out⟩
      rw [HL.out]
      exact RowO.top HO.out

end Go.Proofs.Ytfibikkbhbmfkaa
