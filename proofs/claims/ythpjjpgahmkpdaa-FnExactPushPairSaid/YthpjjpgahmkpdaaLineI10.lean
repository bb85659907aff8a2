/-
  A line as the program holds it.
-/
import Derived.Test.YthpjjpgahmkpdaaRows10
import Derived.Test.YthpjjpgahmkpdaaLine10
namespace Go.Proofs.Ythpjjpgahmkpdaa
open Go.ChangeShapes Go.WideShapes Go.ChangeAt Go.RowKit

set_option maxRecDepth 100000
set_option linter.unusedVariables false

def LineR (ps : List BodyD) (u : World) (e : Ending) (u' : World) : Prop :=
  (if LineP ps then ∃ v', e = .returned (.tuple #[v', .bool true]) ∧ SolidO u' u.heap.size u'.heap.size v' ps else e = .returned (.tuple #[.slice none 0 0, .bool false])) ∧ Kept u u'
theorem ok_more' {ps : List BodyD} {k : Nat} (h : ∀ j, j < k → OkAt ps j) (hk : OkAt ps k) : ∀ j, j < k + 1 → OkAt ps j := fun j hj => by
  by_cases e : j = k
  · subst e; exact hk
  · exact h j (by omega)
set_option maxHeartbeats 8000000 in
theorem lineOf (ps : List BodyD) (v : Value) (w : World) (hv : BodyAt w v ps) (hn : ps.length ≤ 1048576) :
    Calls Try.prog 55 #[v] w (LineR ps w) := by
  obtain ⟨ao, cap, hsl⟩ := row_nil hv
  subst hsl
  by_cases hc : 20 < ps.length
  · have d : decide ((20 : Int) < (ps.length : Int)) = true := by simp; omega
    go_enter Try.func55, Try.ntmps55
    go_wp2
    refine bodyPost_ret (v := .tuple #[.slice none 0 0, .bool false]) (by simp [results, Try.results55, go_sem]) rfl ?_
    refine ⟨?_, But.refl _ _ _⟩
    rw [if_neg (fun h => by have := h.1; omega)]
  · have d : decide ((20 : Int) < (ps.length : Int)) = false := by simp; omega
    obtain ⟨i0, hi0, hz0, hz1, hz2⟩ := info_parts infoSolid
    go_enter Try.func55, Try.ntmps55
    repeat (first | go_values | go_skip | go_guarded | go_step | go_upon)
    go_loopw [4, 14] (fun e i wr => ∃ (j : Nat) (ao' : Option Addr) (c' : Nat), j ≤ ps.length ∧ i = .int .i64 j ∧ (∀ k, k < j → OkAt ps k) ∧ e = .slice ao' j c' ∧ wr.ownsRow w.heap.size 95 4 (.slice ao' j c') j ((ps.take j).flatMap solidC) ∧ Kept w wr) (fun e i _ => ps.length - (intOf i).toNat)
    case atStart => exact ⟨0, none, 0, by omega, rfl, fun k hk => by omega, rfl, World.ownsRow_nil _ _ _ _, But.refl _ _ _⟩
    case round =>
      obtain ⟨j, ao', c', hk, rfl, hb, rfl, hown, hkp⟩ := hrel
      have HO : Hid (wr.ownsRow w.heap.size 95 4 (.slice ao' j c') j ((ps.take j).flatMap solidC)) := hown
      have HK : Hid (Kept w wr) := hkp
      have HB : Hid (∀ k, k < j → OkAt ps k) := hb
      have hwz := hkp.size
      clear hown hb
      by_cases hlt : j < ps.length
      · obtain ⟨b, hp⟩ : ∃ b, ps[j]? = some b := ⟨_, List.getElem?_eq_getElem hlt⟩
        obtain ⟨bb, o, cap', e, c0, c1, c2, c3⟩ := body_get (hv.kept hkp) hp
        cases e
        have HT : Hid (ps.take (j + 1) = ps.take j ++ [b]) := take_snoc hp
        have HP : Hid (ps[j]? = some b) := hp
        clear hkp hp
        obtain ⟨x, p, m, r⟩ := b
        dsimp only at c0 c1 c2 c3
        rcases (Decidable.em (BodyP (x, p, m, r))).symm with hb | hb
        · have ha : decide (BodyP (x, p, m, r)) = false := decide_eq_false hb
          have HN : Hid (¬ LineP ps) := fun h => hb (h.2 j hlt _ HP.out).1
          clear hb
          have hby : True := trivial
          repeat (first
            | (go_at_call 86; refine (isolid _ _ _ _ _).mono ?_; rw [ha]; rintro e w1 ⟨rfl, k1⟩
               have HK1 : Hid (Kept w w1) := (show Kept w w1 from (by refine But.trans ?_ k1; repeat (first | with_reducible exact HK.out | with_reducible apply But.alloc | (with_reducible refine But.setNew ?_ (by simp; try omega) _))))
               have HO1 : Hid (w1.ownsRow w.heap.size 95 4 (.slice ao' j c') j ((ps.take j).flatMap solidC)) := (own_kept HO.out (by refine But.trans ?_ k1; repeat (first | with_reducible exact (But.refl _ _ _) | with_reducible apply But.alloc)))
               have hw1 := HK1.out.size
               clear k1
               dsimp only)
            | go_values | go_skip | go_guarded | go_step | go_upon)
          try go_region
          all_goals
            repeat (first | go_values | go_skip | go_guarded | go_step | go_upon)
            refine bodyPost_ret (v := .tuple #[.slice none 0 0, .bool false]) (by simp [results, Try.results55, go_sem]) rfl ?_
            refine ⟨?_, by (repeat (first | with_reducible exact HK1.out | with_reducible apply But.drewN | with_reducible apply But.drew | with_reducible apply But.alloc | (with_reducible refine But.setNew ?_ (by simp; try omega) _)))⟩
            rw [if_neg HN.out]
        have ha : decide (BodyP (x, p, m, r)) = true := decide_eq_true hb
        obtain ⟨⟨x1, x2⟩, _, _, _, ⟨r1, r2⟩⟩ := id hb
        dsimp only at x1 x2 r1 r2
        have hbx : -4000000000 ≤ x ∧ x ≤ 4000000000 := by omega
        have hbr : 0 ≤ r ∧ r ≤ 1000 := by omega
        by_cases h0 : 0 < j
        · obtain ⟨j', hj'⟩ : ∃ j', j = j' + 1 := ⟨j - 1, by omega⟩
          obtain ⟨a, hq⟩ : ∃ b, ps[j']? = some b := ⟨_, List.getElem?_eq_getElem (by omega)⟩
          have hq' : (ps.take j)[j']? = some a := by rw [List.getElem?_take, if_pos (by omega)]; exact hq
          obtain ⟨y, p', m', s⟩ := a
          have hba := (HB.out j' (by omega) _ hq).1
          obtain ⟨⟨y1, y2⟩, _, _, _, ⟨s1', s2'⟩⟩ := hba
          dsimp only at y1 y2 s1' s2'
          have hby : -4000000000 ≤ y ∧ y ≤ 4000000000 := by omega
          have hbs : 0 ≤ s ∧ s ≤ 1000 := by omega
          have hl20 : j < 20 := by omega
          have dj : decide (0 < j) = true := decide_eq_true h0
          have ej : IntKind.i64.wrap ((j : Int) - 1) = (j' : Int) := by rw [IntWalk.i64_in _ (by omega)]; omega
          have z1 : (0 : Int) ≤ (j' : Int) := by omega
          have z2 : (j' : Int) < (j : Int) := by omega
          have hlen : (ps.take j).length = j := by rw [List.length_take]; omega
          have HQ : Hid (∀ u : World, u.ownsRow w.heap.size 95 4 (.slice ao' j c') j ((ps.take j).flatMap solidC) → ∃ b o, Value.slice ao' j c' = .slice (some ⟨b, o, none⟩) j c' ∧ u.cell? ⟨b, o + j' * 4, none⟩ = some (.int .i64 y) ∧ u.cell? ⟨b, o + j' * 4 + 1, none⟩ = some (.int .i64 p') ∧ u.cell? ⟨b, o + j' * 4 + 2, none⟩ = some (.int .i64 m') ∧ u.cell? ⟨b, o + j' * 4 + 3, none⟩ = some (.int .i64 s)) := fun u hu => by
            have hra := own_row hu
            rw [← hlen] at hra
            obtain ⟨b, o, cap2, e2, q0, q1, q2, q3⟩ := solid_get (ps := ps.take j) (by rw [SolidAt]; rw [hlen] at hra ⊢; exact hra) hq'
            rw [hlen] at e2
            cases e2
            exact ⟨b, o, rfl, q0, q1, q2, q3⟩
          have hoff : OkAt ps j ↔ y + s ≤ x - r := by
            constructor
            · intro h
              exact (h _ HP.out).2 (y, p', m', s) h0 (by rw [hj']; simpa using hq)
            · intro h b hb'
              rw [HP.out] at hb'
              cases hb'
              refine ⟨hb, fun a _ ha' => ?_⟩
              rw [hj'] at ha'
              simp only [Nat.add_sub_cancel] at ha'
              rw [hq] at ha'
              cases ha'
              exact h
          have HO9 : Hid (OkAt ps j ↔ y + s ≤ x - r) := hoff
          clear hoff hq hq' hb hj' hlen
          rcases Decidable.em (y + s ≤ x - r) with ho | ho
          · have dg : decide (x - r < y + s) = false := by simp; omega
            have HOK : Hid (OkAt ps j) := HO9.out.2 ho
            clear ho
            repeat (first
              | (go_at_call 86; refine (isolid _ _ _ _ _).mono ?_; rw [ha]; rintro e w1 ⟨rfl, k1⟩
                 have HK1 : Hid (Kept w w1) := (show Kept w w1 from (by refine But.trans ?_ k1; repeat (first | with_reducible exact HK.out | with_reducible apply But.alloc | (with_reducible refine But.setNew ?_ (by simp; try omega) _))))
                 have HO1 : Hid (w1.ownsRow w.heap.size 95 4 (.slice ao' j c') j ((ps.take j).flatMap solidC)) := (own_kept HO.out (by refine But.trans ?_ k1; repeat (first | with_reducible exact (But.refl _ _ _) | with_reducible apply But.alloc)))
                 have hw1 := HK1.out.size
                 clear k1
                 obtain ⟨ob, oo, hsl9, q0, q1, q2, q3⟩ := HQ.out _ HO1.out
                 cases hsl9
                 have hob := cell_lt q0
                 dsimp only)
              | go_values | go_skip | go_guarded | go_step | go_upon)
            refine wp_region_kept (by kernel_rfl) (by kernel_rfl) ?_
            have hcc := KW.cell_eq (w1.alloc (Obj.cells #[.int .i64 x, .int .i64 p, .int .i64 m, .int .i64 r] 95))
            repeat (go_big_quiet_step (first | (go_at_call 87; exact kw_call (iright _ _ _ _ _ hby hbs)) | (go_at_call 88; exact kw_call (ileft _ _ _ _ _ hbx hbr))))
            refine wpQuiet_nil ?_
            rintro w5 ⟨⟨w6, k5⟩, h5⟩
            change w5 = w6 at h5
            subst h5
            have s0 : w5.cell? ⟨w1.heap.size, 0, none⟩ = some (.int .i64 x) := by rw [Kept.cell_eq k5 _ _ (by simp +arith)]; simp [go_sem]
            have s1 : w5.cell? ⟨w1.heap.size, 1, none⟩ = some (.int .i64 p) := by rw [Kept.cell_eq k5 _ _ (by simp +arith)]; simp [go_sem]
            have s2 : w5.cell? ⟨w1.heap.size, 2, none⟩ = some (.int .i64 m) := by rw [Kept.cell_eq k5 _ _ (by simp +arith)]; simp [go_sem]
            have s3 : w5.cell? ⟨w1.heap.size, 3, none⟩ = some (.int .i64 r) := by rw [Kept.cell_eq k5 _ _ (by simp +arith)]; simp [go_sem]
            have HK5 : Hid (Kept w w5) := (HK1.out.alloc _).trans k5
            have HO5 : Hid (w5.ownsRow w.heap.size 95 4 (.slice (some ⟨ob, oo, none⟩) j c') j ((ps.take j).flatMap solidC)) := own_kept HO1.out (((But.refl _ _ _).alloc _).trans k5)
            have hw5 := HK5.out.size
            clear hcc k5
            clear dj
            repeat (first
              | (at_builtin
                 refine wpList_append_own _ rfl _ _ 87 rfl w.heap.size 95 i0 (.agg #[.int .i64 0, .int .i64 0, .int .i64 0, .int .i64 0]) 4 32 Try.underlying87 hi0 hz0 hz1 hz2 rfl (by decide) _ _ _ rfl (own_kept HO5.out ((But.refl _ _ w5).alloc _)) ⟨w5.heap.size, 0, none⟩ 1 1 (solidC (x, p, m, r)) rfl rfl (news_solid (Loc.new w5 (solidC (x, p, m, r)) 95)) (one_solid _) (by unfold maxLen; omega) (by omega) (by simp; omega) ?_
                 intro v' w7 hown' hgrow _
                 obtain ⟨ao5, cap5, hf5, _⟩ := own_form hown'
                 subst hf5
                 have HK7 : Hid (Kept w w7) := (HK5.out.alloc _).grown hgrow (by intro x hx; have := own_lt HO5.out hx; omega)
                 have HW : Hid (w7.ownsRow w.heap.size 95 4 (.slice ao5 (j + 1) cap5) (j + 1) ((ps.take j).flatMap solidC ++ solidC (x, p, m, r))) := hown'
                 clear hgrow hown')
              | go_values | go_skip | go_guarded | go_step | go_upon)
            refine ⟨⟨j + 1, ao5, cap5, hlt, by go_num, ok_more' HB.out HOK.out, rfl, ?_, HK7.out⟩, by simp [intOf]; omega⟩
            rw [HT.out, List.flatMap_append]
            simpa using HW.out
          · have dg : decide (x - r < y + s) = true := by simp; omega
            have HN : Hid (¬ LineP ps) := fun h => ho (HO9.out.1 (h.2 j hlt))
            clear ho
            repeat (first
              | (go_at_call 86; refine (isolid _ _ _ _ _).mono ?_; rw [ha]; rintro e w1 ⟨rfl, k1⟩
                 have HK1 : Hid (Kept w w1) := (show Kept w w1 from (by refine But.trans ?_ k1; repeat (first | with_reducible exact HK.out | with_reducible apply But.alloc | (with_reducible refine But.setNew ?_ (by simp; try omega) _))))
                 have HO1 : Hid (w1.ownsRow w.heap.size 95 4 (.slice ao' j c') j ((ps.take j).flatMap solidC)) := (own_kept HO.out (by refine But.trans ?_ k1; repeat (first | with_reducible exact (But.refl _ _ _) | with_reducible apply But.alloc)))
                 have hw1 := HK1.out.size
                 clear k1
                 obtain ⟨ob, oo, hsl9, q0, q1, q2, q3⟩ := HQ.out _ HO1.out
                 cases hsl9
                 have hob := cell_lt q0
                 dsimp only)
              | go_values | go_skip | go_guarded | go_step | go_upon)
            refine wp_region_kept (by kernel_rfl) (by kernel_rfl) ?_
            have hcc := KW.cell_eq (w1.alloc (Obj.cells #[.int .i64 x, .int .i64 p, .int .i64 m, .int .i64 r] 95))
            repeat (go_big_quiet_step (first | (go_at_call 87; exact kw_call (iright _ _ _ _ _ hby hbs)) | (go_at_call 88; exact kw_call (ileft _ _ _ _ _ hbx hbr))))
            refine wpQuiet_nil ?_
            rintro w5 ⟨⟨w6, k5⟩, h5⟩
            change w5 = w6 at h5
            subst h5
            have s0 : w5.cell? ⟨w1.heap.size, 0, none⟩ = some (.int .i64 x) := by rw [Kept.cell_eq k5 _ _ (by simp +arith)]; simp [go_sem]
            have s1 : w5.cell? ⟨w1.heap.size, 1, none⟩ = some (.int .i64 p) := by rw [Kept.cell_eq k5 _ _ (by simp +arith)]; simp [go_sem]
            have s2 : w5.cell? ⟨w1.heap.size, 2, none⟩ = some (.int .i64 m) := by rw [Kept.cell_eq k5 _ _ (by simp +arith)]; simp [go_sem]
            have s3 : w5.cell? ⟨w1.heap.size, 3, none⟩ = some (.int .i64 r) := by rw [Kept.cell_eq k5 _ _ (by simp +arith)]; simp [go_sem]
            have HK5 : Hid (Kept w w5) := (HK1.out.alloc _).trans k5
            have HO5 : Hid (w5.ownsRow w.heap.size 95 4 (.slice (some ⟨ob, oo, none⟩) j c') j ((ps.take j).flatMap solidC)) := own_kept HO1.out (((But.refl _ _ _).alloc _).trans k5)
            have hw5 := HK5.out.size
            clear hcc k5
            repeat (first | go_values | go_skip | go_guarded | go_step | go_upon)
            refine bodyPost_ret (v := .tuple #[.slice none 0 0, .bool false]) (by simp [results, Try.results55, go_sem]) rfl ?_
            refine ⟨?_, HK5.out⟩
            rw [if_neg HN.out]
        · have dj : decide (0 < j) = false := decide_eq_false h0
          have hok : OkAt ps j := fun b hb' => by
            rw [HP.out] at hb'
            cases hb'
            exact ⟨hb, fun a h => by omega⟩
          have HOK : Hid (OkAt ps j) := hok
          clear hok hb h0
          have hby : -4000000000 ≤ x ∧ x ≤ 4000000000 := hbx
          have hbs := hbr
          repeat (first
            | (go_at_call 86; refine (isolid _ _ _ _ _).mono ?_; rw [ha]; rintro e w1 ⟨rfl, k1⟩
               have HK1 : Hid (Kept w w1) := (show Kept w w1 from (by refine But.trans ?_ k1; repeat (first | with_reducible exact HK.out | with_reducible apply But.alloc | (with_reducible refine But.setNew ?_ (by simp; try omega) _))))
               have HO1 : Hid (w1.ownsRow w.heap.size 95 4 (.slice ao' j c') j ((ps.take j).flatMap solidC)) := (own_kept HO.out (by refine But.trans ?_ k1; repeat (first | with_reducible exact (But.refl _ _ _) | with_reducible apply But.alloc)))
               have hw1 := HK1.out.size
               clear k1
               dsimp only)
            | go_values | go_skip | go_guarded | go_step | go_upon)
          refine wp_region_kept (by kernel_rfl) (by kernel_rfl) ?_
          have hcc := KW.cell_eq (w1.alloc (Obj.cells #[.int .i64 x, .int .i64 p, .int .i64 m, .int .i64 r] 95))
          repeat (go_big_quiet_step (first | (go_at_call 87; exact kw_call (iright _ _ _ _ _ hby hbs)) | (go_at_call 88; exact kw_call (ileft _ _ _ _ _ hbx hbr))))
          refine wpQuiet_nil ?_
          rintro w5 ⟨⟨w6, k5⟩, h5⟩
          change w5 = w6 at h5
          subst h5
          have s0 : w5.cell? ⟨w1.heap.size, 0, none⟩ = some (.int .i64 x) := by rw [Kept.cell_eq k5 _ _ (by simp +arith)]; simp [go_sem]
          have s1 : w5.cell? ⟨w1.heap.size, 1, none⟩ = some (.int .i64 p) := by rw [Kept.cell_eq k5 _ _ (by simp +arith)]; simp [go_sem]
          have s2 : w5.cell? ⟨w1.heap.size, 2, none⟩ = some (.int .i64 m) := by rw [Kept.cell_eq k5 _ _ (by simp +arith)]; simp [go_sem]
          have s3 : w5.cell? ⟨w1.heap.size, 3, none⟩ = some (.int .i64 r) := by rw [Kept.cell_eq k5 _ _ (by simp +arith)]; simp [go_sem]
          have HK5 : Hid (Kept w w5) := (HK1.out.alloc _).trans k5
          have HO5 : Hid (w5.ownsRow w.heap.size 95 4 (.slice ao' j c') j ((ps.take j).flatMap solidC)) := own_kept HO1.out (((But.refl _ _ _).alloc _).trans k5)
          have hw5 := HK5.out.size
          clear hcc k5
          clear dj
          repeat (first
            | (at_builtin
               refine wpList_append_own _ rfl _ _ 87 rfl w.heap.size 95 i0 (.agg #[.int .i64 0, .int .i64 0, .int .i64 0, .int .i64 0]) 4 32 Try.underlying87 hi0 hz0 hz1 hz2 rfl (by decide) _ _ _ rfl (own_kept HO5.out ((But.refl _ _ w5).alloc _)) ⟨w5.heap.size, 0, none⟩ 1 1 (solidC (x, p, m, r)) rfl rfl (news_solid (Loc.new w5 (solidC (x, p, m, r)) 95)) (one_solid _) (by unfold maxLen; omega) (by omega) (by simp; omega) ?_
               intro v' w7 hown' hgrow _
               obtain ⟨ao5, cap5, hf5, _⟩ := own_form hown'
               subst hf5
               have HK7 : Hid (Kept w w7) := (HK5.out.alloc _).grown hgrow (by intro x hx; have := own_lt HO5.out hx; omega)
               have HW : Hid (w7.ownsRow w.heap.size 95 4 (.slice ao5 (j + 1) cap5) (j + 1) ((ps.take j).flatMap solidC ++ solidC (x, p, m, r))) := hown'
               clear hgrow hown')
            | go_values | go_skip | go_guarded | go_step | go_upon)
          refine ⟨⟨j + 1, ao5, cap5, hlt, by go_num, ok_more' HB.out HOK.out, rfl, ?_, HK7.out⟩, by simp [intOf]; omega⟩
          rw [HT.out, List.flatMap_append]
          simpa using HW.out
      · have hke : j = ps.length := by omega
        subst hke
        rw [List.take_length] at HO
        repeat (first | go_values | go_skip | go_guarded | go_step | go_upon)
        refine bodyPost_ret (v := .tuple #[.slice ao' ps.length c', .bool true]) (by simp [results, Try.results55, go_sem]) rfl ?_
        refine ⟨?_, HK.out⟩
        rw [if_pos (show LineP ps from ⟨by omega, HB.out⟩)]
        exact ⟨_, rfl, RowO.top HO.out⟩

end Go.Proofs.Ythpjjpgahmkpdaa
