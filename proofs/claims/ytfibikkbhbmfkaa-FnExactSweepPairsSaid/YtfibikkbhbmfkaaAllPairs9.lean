/-
  AllPairs, in the specification and in the program.
-/
import Derived.Test.YtfibikkbhbmfkaaPairs9
namespace Go.Proofs.Ytfibikkbhbmfkaa
open Go.ChangeShapes Go.WideShapes Go.ChangeAt Go.RowKit

set_option maxRecDepth 100000
set_option linter.unusedVariables false
set_option linter.unusedSimpArgs false

def allR (ps : List ShapeD) : List PairD × Bool := if shapesB ps = true then (allT ps ps.length, true) else ([], false)
theorem allR_len (ps : List ShapeD) : (allR ps).1.length ≤ 100000000 := by
  unfold allR
  split
  · rename_i h
    have h1 := shapes_len h
    have := allT_len h1 ps.length
    dsimp only
    omega
  · simp
theorem pair_nil (w : World) (lo hi : Nat) : PairO w lo hi (.slice none 0 0) [] := ⟨World.ownsRow_nil _ _ _ _, fun g hg => by simp [Value.ownBlock] at hg⟩
def AllO (ps : List ShapeD) (u : World) (e : Ending) (u' : World) : Prop := ∃ v', e = .returned (.tuple #[v', .bool (allR ps).2]) ∧ PairO u' u.heap.size u'.heap.size v' (allR ps).1 ∧ Kept u u'
set_option maxHeartbeats 4000000 in
theorem sall (ps : List ShapeD) (v : Value) (w : World) (hv : ShapeAt w v ps) (hn : ps.length ≤ 1048576) : Calls Try.prog 20 #[v] w (AllO ps w) := by
  obtain ⟨ao, cap, hsl⟩ := row_nil hv
  subst hsl
  by_cases hg : shapesB ps = true
  · have hr : allR ps = (allT ps ps.length, true) := if_pos hg
    unfold AllO
    rw [hr]
    go_enter Try.func20, Try.ntmps20
    repeat (first | go_values | go_skip | go_guarded | go_step | go_upon)
    go_at_call 41
    refine (sshapes ps _ _ hv hn).mono ?_
    rw [hg]
    rintro e w1 ⟨rfl, k1⟩
    dsimp only
    repeat (first | go_values | go_skip | go_guarded | go_step | go_upon)
    go_at_call 42
    refine (spairs ps _ _ (hv.kept k1) hg).mono ?_
    rintro e w2 ⟨v', rfl, o2, k2⟩
    obtain ⟨ao2, cap2, hfm⟩ := o2.form
    subst hfm
    dsimp only
    repeat (first | go_values | go_skip | go_guarded | go_step | go_upon)
    refine bodyPost_ret (v := .tuple #[.slice ao2 (allT ps ps.length).length cap2, .bool true]) (by simp [results, Try.results20, go_sem]) rfl ?_
    exact ⟨_, rfl, o2.mono k1.size (Nat.le_refl _), k1.trans k2⟩
  · have hg' : shapesB ps = false := by simpa using hg
    have hr : allR ps = ([], false) := if_neg hg
    unfold AllO
    rw [hr]
    go_enter Try.func20, Try.ntmps20
    repeat (first | go_values | go_skip | go_guarded | go_step | go_upon)
    go_at_call 41
    refine (sshapes ps _ _ hv hn).mono ?_
    rw [hg']
    rintro e w1 ⟨rfl, k1⟩
    dsimp only
    repeat (first | go_values | go_skip | go_guarded | go_step | go_upon)
    refine bodyPost_ret (v := .tuple #[.slice none 0 0, .bool false]) (by simp [results, Try.results20, go_sem]) rfl ?_
    exact ⟨_, rfl, pair_nil _ _ _, k1⟩
theorem figs_yes {ps : List ShapeD} {u u' : World} {e : Ending} (h : shapesB ps = true) (k : FigsR ps u e u') : (∃ v', e = .returned (.tuple #[v', .bool true]) ∧ FigO u' u.heap.size u'.heap.size v' ps) ∧ Kept u u' := by
  unfold FigsR at k
  rw [if_pos h] at k
  exact k
theorem figs_no {ps : List ShapeD} {u u' : World} {e : Ending} (h : ¬ shapesB ps = true) (k : FigsR ps u e u') : e = .returned (.tuple #[.slice none 0 0, .bool false]) ∧ Kept u u' := by
  unfold FigsR at k
  rw [if_neg h] at k
  exact k
set_option maxHeartbeats 8000000 in
theorem iall (ps : List ShapeD) (v : Value) (w : World) (hv : ShapeAt w v ps) (hn : ps.length ≤ 1048576) : Calls Try.prog 22 #[v] w (AllO ps w) := by
  obtain ⟨ao, cap, hsl⟩ := row_nil hv
  subst hsl
  by_cases hg : shapesB ps = true
  · have hr : allR ps = (allT ps ps.length, true) := if_pos hg
    unfold AllO
    rw [hr]
    have hn := shapes_len hg
    have HG : Hid (∀ i p, ps[i]? = some p → ShapeP p) := fun i p => shapes_good hg
    obtain ⟨i0, hi0, hz0, hz1, hz2⟩ := info_parts infoPair
    go_enter Try.func22, Try.ntmps22
    repeat (first | go_values | go_skip | go_guarded | go_step | go_upon)
    go_at_call 43
    refine (figuresOf ps _ _ hv (by omega)).mono ?_
    rintro e W0 hF
    obtain ⟨⟨v1, rfl, o1⟩, K0⟩ := figs_yes hg hF
    have hK0 := K0.size
    obtain ⟨fao, fcap, hfm⟩ := o1.form
    subst hfm
    have HV : Hid (FigAt W0 (.slice fao ps.length fcap) ps) := o1.at
    clear hF o1 hv hg hr
    dsimp only
    repeat (first | go_values | go_skip | go_guarded | go_step | go_upon)
    go_loopw [6, 18] (fun e i wr => ∃ (j : Nat) (l : List PairD) (ao' : Option Addr) (c' : Nat), j ≤ ps.length ∧ i = .int .i64 j ∧ allT ps j = l ∧ e = .slice ao' l.length c' ∧ wr.ownsRow W0.heap.size 70 2 (.slice ao' l.length c') l.length (l.flatMap pairC) ∧ Kept W0 wr) (fun e i _ => ps.length - (intOf i).toNat)
    case atStart => exact ⟨0, [], none, 0, by omega, rfl, rfl, rfl, World.ownsRow_nil _ _ _ _, But.refl _ _ _⟩
    case round =>
      obtain ⟨j, l, ao', c', hj, rfl, hl, rfl, hown, hkp⟩ := hrel
      have HO : Hid (wr.ownsRow W0.heap.size 70 2 (.slice ao' l.length c') l.length (l.flatMap pairC)) := hown
      have HK : Hid (Kept W0 wr) := hkp
      have HL : Hid (allT ps j = l) := hl
      have hll : l.length ≤ 40 * j := by rw [← hl]; exact allT_len hn j
      clear hown hkp hl
      by_cases hlt : j < ps.length
      · have e1 := IntWalk.i64_in (n := (j : Int) + 1) (by omega)
        repeat (first | go_values | go_skip | go_guarded | go_step | go_upon)
        go_loopw [6, 8] (fun e i wr => ∃ (q : Nat) (l : List PairD) (ao' : Option Addr) (c' : Nat), j + 1 ≤ q ∧ q ≤ ps.length ∧ i = .int .i64 q ∧ allT ps j ++ rowT ps j (q - (j + 1)) = l ∧ e = .slice ao' l.length c' ∧ wr.ownsRow W0.heap.size 70 2 (.slice ao' l.length c') l.length (l.flatMap pairC) ∧ Kept W0 wr) (fun e i _ => ps.length - (intOf i).toNat)
        case atStart => exact ⟨j + 1, l, ao', c', Nat.le_refl _, hlt, by simp, by rw [HL.out]; simp [rowT], rfl, HO.out, HK.out⟩
        case round =>
          clear HO HK HL hll
          obtain ⟨q, l, ao', c', hq1, hq, rfl, hl, rfl, hown, hkp⟩ := hrel
          have HO : Hid (wr.ownsRow W0.heap.size 70 2 (.slice ao' l.length c') l.length (l.flatMap pairC)) := hown
          have HK : Hid (Kept W0 wr) := hkp
          have HL : Hid (allT ps j ++ rowT ps j (q - (j + 1)) = l) := hl
          have hll : l.length ≤ 40 * j + 40 := by
            rw [← hl, List.length_append]
            have := allT_len hn j
            have := rowT_len ps j (q - (j + 1))
            omega
          have hwz := hkp.size
          clear hown hl
          by_cases hqt : q < ps.length
          · obtain ⟨p, hp⟩ : ∃ p, ps[j]? = some p := ⟨_, List.getElem?_eq_getElem hlt⟩
            obtain ⟨p2, hp2⟩ : ∃ p, ps[q]? = some p := ⟨_, List.getElem?_eq_getElem hqt⟩
            obtain ⟨bb, o, cap', e, c0⟩ := fig_get (HV.out.kept hkp) hp
            cases e
            obtain ⟨bb2, o2, cap2, e, d0⟩ := fig_get (HV.out.kept hkp) hp2
            cases e
            have hR : rowT ps j (q + 1 - (j + 1)) = rowT ps j (q - (j + 1)) ++ tf ps j q := by
              rw [show q + 1 - (j + 1) = (q - (j + 1)) + 1 by omega, rowT_succ, show j + 1 + (q - (j + 1)) = q by omega]
            have HR : Hid (rowT ps j (q + 1 - (j + 1)) = rowT ps j (q - (j + 1)) ++ tf ps j q) := hR
            have HP1 : Hid (ps[j]? = some p) := hp
            have HP2 : Hid (ps[q]? = some p2) := hp2
            have HS1 : Hid (ShapeP p) := HG.out _ _ hp
            have HS2 : Hid (ShapeP p2) := HG.out _ _ hp2
            clear hp hp2 hkp hR
            have HTC : Hid (∀ W, Calls Try.prog 40 #[figV p, figV p2] W fun e' w' => e' = .returned (.bool (decide (TouchP p p2))) ∧ Kept W w') := fun W => touching p p2 W HS1.out HS2.out
            obtain ⟨ft, fv, hfv⟩ := figV_iface p
            obtain ⟨ft2, fv2, hfv2⟩ := figV_iface p2
            rw [hfv] at c0 HTC
            rw [hfv2] at d0 HTC
            clear hfv hfv2
            have hbb := cell_lt c0
            cases ht : decide (TouchP p p2)
            · have HE : Hid (tf ps j q = []) := tf_no HP1.out HP2.out ht
              repeat (first | go_values | go_skip | go_guarded | go_step | go_upon)
              refine wp_region_kept (by kernel_rfl) (by kernel_rfl) ?_
              have hcc := KW.cell_eq wr
              repeat (go_big_quiet_step (first | (go_at_call 40; exact kw_call (calls_bool ht (HTC.out _)))))
              refine wpQuiet_nil ?_
              rintro w5 ⟨⟨w6, k5⟩, h5⟩
              change w5 = w6 at h5
              subst h5
              have HK5 : Hid (Kept wr w5) := k5
              clear hcc k5 c0 d0
              repeat (first | go_values | go_skip | go_guarded | go_step | go_upon)
              refine ⟨⟨q + 1, l, ao', c', by omega, hqt, by go_num, ?_, rfl, own_kept HO.out HK5.out, HK.out.trans HK5.out⟩, by simp [intOf]; omega⟩
              rw [HR.out, HE.out, List.append_nil]
              exact HL.out
            · have HE : Hid (tf ps j q = [((j : Int), (q : Int))]) := tf_yes HP1.out HP2.out ht
              repeat (first | go_values | go_skip | go_guarded | go_step | go_upon)
              refine wp_region_kept (by kernel_rfl) (by kernel_rfl) ?_
              have hcc := KW.cell_eq wr
              repeat (go_big_quiet_step (first | (go_at_call 40; exact kw_call (calls_bool ht (HTC.out _)))))
              refine wpQuiet_nil ?_
              rintro w5 ⟨⟨w6, k5⟩, h5⟩
              change w5 = w6 at h5
              subst h5
              have HK5 : Hid (Kept wr w5) := k5
              clear hcc k5 c0 d0
              have HO1 : Hid (w5.ownsRow W0.heap.size 70 2 (.slice ao' l.length c') l.length (l.flatMap pairC)) := own_kept HO.out HK5.out
              have HK1 : Hid (Kept W0 w5) := HK.out.trans HK5.out
              have hw1 := HK1.out.size
              clear HO HK HK5
              repeat (first
                | (at_builtin
                   refine wpList_append_own _ rfl _ _ 36 rfl W0.heap.size 70 i0 (.agg #[.int .i64 0, .int .i64 0]) 2 16 Try.underlying36 hi0 hz0 hz1 hz2 rfl (by decide) _ _ _ rfl (own_kept HO1.out ((But.refl _ _ w5).alloc _)) ⟨w5.heap.size, 0, none⟩ 1 1 (pairC ((j : Int), (q : Int))) rfl rfl (news_pair (Loc.new w5 (pairC ((j : Int), (q : Int))) 70)) (one_pair _) (by unfold maxLen; omega) (by omega) (by simp; omega) ?_
                   intro v' w7 hown' hgrow _
                   obtain ⟨ao5, cap5, hf5, _⟩ := own_form hown'
                   subst hf5
                   have HK5 : Hid (Kept W0 w7) := (HK1.out.alloc _).grown hgrow (by intro x hx; have := own_lt HO1.out hx; omega)
                   have HW : Hid (w7.ownsRow W0.heap.size 70 2 (.slice ao5 (l.length + 1) cap5) (l.length + 1) (l.flatMap pairC ++ pairC ((j : Int), (q : Int)))) := hown'
                   clear hgrow hown')
                | go_values | go_skip | go_guarded | go_step | go_upon)
              refine ⟨⟨q + 1, l ++ [((j : Int), (q : Int))], ao5, cap5, by omega, hqt, by go_num, ?_, by simp, by simpa [List.flatMap_append, pairC] using HW.out, HK5.out⟩, by simp [intOf]; omega⟩
              rw [HR.out, HE.out, ← List.append_assoc, HL.out]
          · have hqe : q = ps.length := by omega
            subst hqe
            repeat (first | go_values | go_skip | go_guarded | go_step | go_upon)
            refine ⟨⟨j + 1, l, ao', c', hlt, by go_num, ?_, rfl, HO.out, HK.out⟩, by simp [intOf]; omega⟩
            rw [allT_succ]
            exact HL.out
      · have hje : j = ps.length := by omega
        subst hje
        repeat (first | go_values | go_skip | go_guarded | go_step | go_upon)
        refine bodyPost_ret (v := .tuple #[.slice ao' l.length c', .bool true]) (by simp [results, Try.results22, go_sem]) rfl ?_
        refine ⟨_, rfl, ?_, K0.trans HK.out⟩
        rw [HL.out]
        exact RowO.mono (RowO.top HO.out) hK0 (Nat.le_refl _)
  · have hr : allR ps = ([], false) := if_neg hg
    unfold AllO
    rw [hr]
    go_enter Try.func22, Try.ntmps22
    repeat (first | go_values | go_skip | go_guarded | go_step | go_upon)
    go_at_call 43
    refine (figuresOf ps _ _ hv hn).mono ?_
    rintro e w1 hF
    obtain ⟨rfl, k1⟩ := figs_no hg hF
    clear hF
    dsimp only
    repeat (first | go_values | go_skip | go_guarded | go_step | go_upon)
    refine bodyPost_ret (v := .tuple #[.slice none 0 0, .bool false]) (by simp [results, Try.results22, go_sem]) rfl ?_
    exact ⟨_, rfl, pair_nil _ _ _, k1⟩

end Go.Proofs.Ytfibikkbhbmfkaa
