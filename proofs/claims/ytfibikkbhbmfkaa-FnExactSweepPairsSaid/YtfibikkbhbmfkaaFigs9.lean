/-
  A list of shapes as figures.
-/
import Derived.Test.YtfibikkbhbmfkaaRows9
namespace Go.Proofs.Ytfibikkbhbmfkaa
open Go.ChangeShapes Go.WideShapes Go.ChangeAt Go.RowKit

set_option maxRecDepth 100000
set_option linter.unusedVariables false
set_option linter.unusedSimpArgs false

def FigsR (ps : List ShapeD) (u : World) (e : Ending) (u' : World) : Prop :=
  (if shapesB ps = true then ∃ v', e = .returned (.tuple #[v', .bool true]) ∧ FigO u' u.heap.size u'.heap.size v' ps else e = .returned (.tuple #[.slice none 0 0, .bool false])) ∧ Kept u u'
set_option maxHeartbeats 4000000 in
theorem figuresOf (ps : List ShapeD) (v : Value) (w : World) (hv : ShapeAt w v ps) (hn : ps.length ≤ 1048576) :
    Calls Try.prog 43 #[v] w (FigsR ps w) := by
  obtain ⟨ao, cap, hsl⟩ := row_nil hv
  subst hsl
  by_cases hc : 40 < ps.length
  · have d : decide ((40 : Int) < (ps.length : Int)) = true := by simp; omega
    go_enter Try.func43, Try.ntmps43
    go_wp2
    refine bodyPost_ret (v := .tuple #[.slice none 0 0, .bool false]) (by simp [results, Try.results43, go_sem]) rfl ?_
    refine ⟨?_, But.refl _ _ _⟩
    rw [if_neg (by simp [shapesB]; omega)]
  · have d : decide ((40 : Int) < (ps.length : Int)) = false := by simp; omega
    obtain ⟨i0, hi0, hz0, hz1, hz2⟩ := info_parts infoFig
    go_enter Try.func43, Try.ntmps43
    repeat (first | go_values | go_skip | go_guarded | go_step | go_upon)
    go_loopw [4, 14] (fun e i wr => ∃ (j : Nat) (ao' : Option Addr) (c' : Nat), j ≤ ps.length ∧ i = .int .i64 j ∧ (ps.take j).all shapeB = true ∧ e = .slice ao' j c' ∧ wr.ownsRow w.heap.size 56 1 (.slice ao' j c') j ((ps.take j).flatMap figC) ∧ Kept w wr) (fun e i _ => ps.length - (intOf i).toNat)
    case atStart => exact ⟨0, none, 0, by omega, rfl, by simp, rfl, World.ownsRow_nil _ _ _ _, But.refl _ _ _⟩
    case round =>
      obtain ⟨j, ao', c', hk, rfl, hb, rfl, hown, hkp⟩ := hrel
      have HO : Hid (wr.ownsRow w.heap.size 56 1 (.slice ao' j c') j ((ps.take j).flatMap figC)) := hown
      have HK : Hid (Kept w wr) := hkp
      have hwz := hkp.size
      clear hown
      by_cases hlt : j < ps.length
      · obtain ⟨p, hp⟩ : ∃ p, ps[j]? = some p := ⟨_, List.getElem?_eq_getElem hlt⟩
        obtain ⟨bb, o, cap', e, c0, c1, c2, c3, c4⟩ := shape_get (hv.kept hkp) hp
        cases e
        have hbn : (ps.take (j + 1)).all shapeB = shapeB p := by rw [take_snoc hp, List.all_append, hb]; simp
        have HB : Hid ((ps.take (j + 1)).all shapeB = shapeB p) := hbn
        have HT : Hid (ps.take (j + 1) = ps.take j ++ [p]) := take_snoc hp
        clear hbn hb hkp hp
        by_cases ha : ShapeP p
        · have h1 := figR_yes ha
          have HA : Hid (shapeB p = true) := by show shapeB p = true; simp [shapeB, ha]
          have HF : Hid (figC p = [figV p]) := rfl
          have HOne : Hid (∀ u ∈ figC p, u.oneCell' = true) := one_fig p
          obtain ⟨k, x, y, a, b⟩ := p
          dsimp only at c0 c1 c2 c3 c4
          rw [HF.out] at HOne
          obtain ⟨ft, fv, hfv⟩ := figV_iface (k, x, y, a, b)
          rw [hfv] at h1 HF HOne
          clear hfv
          clear ha
          repeat (first
            | (go_at_call 36; refine (figureOf _ _ _ _ _ _).mono ?_; rw [h1]; rintro e w1 ⟨rfl, k1⟩
               have HK1 : Hid (Kept w w1) := (show Kept w w1 from (by refine But.trans ?_ k1; repeat (first | with_reducible exact HK.out | with_reducible apply But.alloc | (with_reducible refine But.setNew ?_ (by simp; try omega) _))))
               have HO1 : Hid (w1.ownsRow w.heap.size 56 1 (.slice ao' j c') j ((ps.take j).flatMap figC)) := (own_kept HO.out (by refine But.trans ?_ k1; repeat (first | with_reducible exact (But.refl _ _ _) | with_reducible apply But.alloc)))
               have hw1 := HK1.out.size
               clear k1
               dsimp only)
            | (at_builtin
               refine wpList_append_own _ rfl _ _ 66 rfl w.heap.size 56 i0 .nilIface 1 16 Try.underlying66 hi0 hz0 hz1 hz2 rfl (by decide) _ _ _ rfl (own_kept HO1.out ((But.refl _ _ w1).alloc _)) ⟨w1.heap.size, 0, none⟩ 1 1 [.iface ft fv] rfl rfl (news1 (Loc.new w1 [.iface ft fv] 56)) HOne.out (by unfold maxLen; omega) (by omega) (by simp; omega) ?_
               intro v' w2 hown' hgrow _
               obtain ⟨ao5, cap5, hf5, _⟩ := own_form hown'
               subst hf5
               have HK5 : Hid (Kept w w2) := (HK1.out.alloc _).grown hgrow (by intro x hx; have := own_lt HO1.out hx; omega)
               have HW : Hid (w2.ownsRow w.heap.size 56 1 (.slice ao5 (j + 1) cap5) (j + 1) ((ps.take j).flatMap figC ++ [.iface ft fv])) := hown'
               clear hgrow hown')
            | go_values | go_skip | go_guarded | go_step | go_upon)
          refine ⟨⟨j + 1, ao5, cap5, hlt, by go_num, by rw [HB.out, HA.out], rfl, ?_, HK5.out⟩, by simp [intOf]; omega⟩
          rw [HT.out, List.flatMap_append]
          simpa [HF.out] using HW.out
        · have h1 := figR_no ha
          have HA : Hid (shapeB p = false) := by show shapeB p = false; simp [shapeB, ha]
          obtain ⟨k, x, y, a, b⟩ := p
          dsimp only at c0 c1 c2 c3 c4
          clear ha
          repeat (first
            | (go_at_call 36; refine (figureOf _ _ _ _ _ _).mono ?_; rw [h1]; rintro e w1 ⟨rfl, k1⟩
               have HK1 : Hid (Kept w w1) := (show Kept w w1 from (by refine But.trans ?_ k1; repeat (first | with_reducible exact HK.out | with_reducible apply But.alloc | (with_reducible refine But.setNew ?_ (by simp; try omega) _))))
               have hw1 := HK1.out.size
               clear k1
               dsimp only)
            | go_values | go_skip | go_guarded | go_step | go_upon)
          refine bodyPost_ret (v := .tuple #[.slice none 0 0, .bool false]) (by simp [results, Try.results43, go_sem]) rfl ?_
          refine ⟨?_, HK1.out⟩
          have h2 : ps.all shapeB = false := by
            rw [← List.take_append_drop (j + 1) ps, List.all_append, HB.out, HA.out]; rfl
          rw [if_neg (by simp [shapesB, h2])]
      · have hke : j = ps.length := by omega
        subst hke
        rw [List.take_length] at hb HO
        have HB : Hid (ps.all shapeB = true) := hb
        clear hb
        repeat (first | go_values | go_skip | go_guarded | go_step | go_upon)
        refine bodyPost_ret (v := .tuple #[.slice ao' ps.length c', .bool true]) (by simp [results, Try.results43, go_sem]) rfl ?_
        refine ⟨?_, HK.out⟩
        rw [if_pos (by simp [shapesB, HB.out]; omega)]
        exact ⟨_, rfl, RowO.top HO.out⟩

end Go.Proofs.Ytfibikkbhbmfkaa
