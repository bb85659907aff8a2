/-
  Which changes are good: the specification.
-/
import Derived.Test.YtklgjhemcofhhaaDoorLeafC22
import Derived.Test.YtklgjhemcofhhaaDoorChg
import Derived.Test.YtklgjhemcofhhaaDoorQuiet
import Derived.Deep.Cut
import Derived.BigQuiet
import Derived.WalkLawsBesides
namespace Go.Proofs.YtklgjhemcofhhaaDoor
open Go.ChangeShapes Go.WideShapes Go.ChangeAt Go.RowKit

set_option maxRecDepth 100000
set_option linter.unusedVariables false
set_option linter.unusedSimpArgs false

theorem then_exit {F : Act → World → Prop} {R : Exit → Act → World → Prop} {n : Nat} {a : Act} {w : World} (h : R (.exit n) a w) : Exit.then F R (.exit n) a w := h
theorem then_normal {F : Act → World → Prop} {R : Exit → Act → World → Prop} {a : Act} {w : World} (h : F a w) : Exit.then F R .normal a w := h
theorem block_hit {id : Nat} {Q : Exit → Act → World → Prop} {a : Act} {w : World} (h : Q .normal a w) : Exit.inBlock id Q (.exit id) a w := by
  show (if id = id then Q .normal a w else Q (.exit id) a w)
  rw [if_pos rfl]
  exact h
theorem block_normal {id : Nat} {Q : Exit → Act → World → Prop} {a : Act} {w : World} (h : Q .normal a w) : Exit.inBlock id Q .normal a w := h
theorem forgetX {P : Program} {c : Go.Code} {Q : Exit → Act → World → Prop} {a : Act} {W : World} (F : World → Prop) (hF : F W) (h : ∀ W', F W' → Code.wp P c Q a W') : Code.wp P c Q a W := h W hF

set_option maxHeartbeats 8000000 in
theorem sgoodc (l : List ChgD) (v : Value) (w : World) (hv : ChgAt w v l) (hn : l.length ≤ 1048576) (hs0 : ∀ d ∈ l, d.2.2.1.size ≤ 1048576 ∧ d.2.2.2.1.size ≤ 1048576) :
    Calls Tryd.prog 32 #[v] w fun e w' => e = .returned (.bool (decide (ChgsP l))) ∧ Kept w w' := by
  obtain ⟨ao, cap, hsl⟩ := row_nil hv
  subst hsl
  have HS : Hid (∀ d ∈ l, d.2.2.1.size ≤ 1048576 ∧ d.2.2.2.1.size ≤ 1048576) := hs0
  clear hs0
  have NO : Hid (¬ ChgsP l → decide (ChgsP l) = false) := decide_eq_false
  have YES : Hid (ChgsP l → decide (ChgsP l) = true) := decide_eq_true
  generalize decide (ChgsP l) = R at *
  by_cases h2 : 30 < l.length
  · have hd2 : decide ((30 : Int) < (l.length : Int)) = true := decide_eq_true (by omega)
    rw [NO.out fun h => by have := h.1; omega]
    go_enter Tryd.func32, Tryd.ntmps32
    repeat (first | go_values | go_skip | go_guarded | go_step | go_upon)
    go_ret
    exact ⟨rfl, But.refl _ _ _⟩
  have hd2 : decide ((30 : Int) < (l.length : Int)) = false := decide_eq_false (by omega)
  go_enter Tryd.func32, Tryd.ntmps32
  repeat (first | go_values | go_skip | go_guarded | go_step | go_upon)
  clear hd2
  go_loopw [10] (fun i wr => ∃ (k : Nat), k ≤ l.length ∧ i = .int .i64 k ∧ Hid (∀ j, j < k → rowC l j = true) ∧ Kept w wr) (fun i _ => l.length - (intOf i).toNat)
  case atStart => exact ⟨0, by omega, rfl, fun j hj => by omega, But.refl _ _ _⟩
  case round =>
    obtain ⟨k, hk, rfl, HB, hkp⟩ := hrel
    by_cases hlt : k < l.length
    · obtain ⟨d, hd⟩ : ∃ p, l[k]? = some p := ⟨_, List.getElem?_eq_getElem hlt⟩
      obtain ⟨b, o, cap', e, c0, c1, c2, c3, c4⟩ := chg_get (hv.kept hkp) hd
      cases e
      have hsz := HS.out d (List.mem_of_getElem? hd)
      have HP : Hid (l[k]? = some d) := hd
      have HV : Hid (ChgAt wr (.slice (some ⟨b, o, none⟩) l.length cap) l) := hv.kept hkp
      have HRW : Hid (rowC l k = (decide (1 ≤ d.1 ∧ d.1 ≤ 2) && (fromB l k d.1 && changeB d.2.1 d.2.2.1 d.2.2.2.1 d.2.2.2.2))) := rowC_eq hd
      have NJ : Hid (rowC l k = false → R = false) := fun h => NO.out (fun h' => by have := h'.2 k hlt; rw [h] at this; cases this)
      obtain ⟨f0, f1, f2, f3, f4⟩ := d
      dsimp only at c0 c1 c2 c3 c4 hsz HRW
      have HK : Hid (Kept w wr) := hkp
      have HSZ : Hid (f2.size ≤ 1048576 ∧ f3.size ≤ 1048576) := hsz
      have hgw : b < wr.heap.size := World.block_lt_of_cell? _ _ c0
      have z0 : (0 : Int) ≤ (k : Int) := by omega
      have z1 : (k : Int) < (l.length : Int) := by omega
      clear hd hkp hv hsz
      have LX := Loc.new wr [.int .i64 f0, .int .i64 f1, .string f2, .string f3, .int .i64 f4] 70
      repeat (go_not_at_region 6; first | go_values | go_skip | go_guarded | go_step | go_upon)
      refine forgetX (fun W6 => Kept wr W6 ∧ Loc W6 wr.heap.size [.int .i64 f0, .int .i64 f1, .string f2, .string f3, .int .i64 f4]) ⟨(But.refl _ _ _).alloc _, LX⟩ ?_
      intro W6 hW6
      obtain ⟨k6, LX⟩ := hW6
      clear c0 c1 c2 c3 c4
      have x0 := LX.cell 0 rfl
      have x1 := LX.cell 1 rfl
      have x2 := LX.cell 2 rfl
      have x3 := LX.cell 3 rfl
      have x4 := LX.cell 4 rfl
      have xl := LX.lt
      have HK6 : Hid (Kept w W6) := HK.out.trans k6
      have HLX : Hid (Loc W6 wr.heap.size [.int .i64 f0, .int .i64 f1, .string f2, .string f3, .int .i64 f4]) := LX
      have HV6 : Hid (ChgAt W6 (.slice (some ⟨b, o, none⟩) l.length cap) l) := HV.out.kept k6
      clear k6 LX HV HK hgw
      have AN : Hid (∀ W, Calls Tryd.prog 41 #[.string f2] W fun e w' => e = .returned (.bool (nameB f2)) ∧ w' = W) := fun W => sname f2 W HSZ.out.1
      have AT : Hid (∀ W, Calls Tryd.prog 41 #[.string f3] W fun e w' => e = .returned (.bool (nameB f3)) ∧ w' = W) := fun W => sname f3 W HSZ.out.2
      have A1 : Hid (∀ W, Calls Tryd.prog 24 #[.int .i64 f0, .int .i64 1, .int .i64 2] W fun e w' => e = .returned (.bool (decide (1 ≤ f0 ∧ f0 ≤ 2))) ∧ w' = W) := fun W => sInG _ _ _ W
      have A2 : Hid (∀ W, Calls Tryd.prog 24 #[.int .i64 f1, .int .i64 1, .int .i64 5] W fun e w' => e = .returned (.bool (decide (1 ≤ f1 ∧ f1 ≤ 5))) ∧ w' = W) := fun W => sInG _ _ _ W
      have A3 : Hid (∀ W, Calls Tryd.prog 24 #[.int .i64 f4, .int .i64 (-1000000), .int .i64 1000000] W fun e w' => e = .returned (.bool (decide (-1000000 ≤ f4 ∧ f4 ≤ 1000000))) ∧ w' = W) := fun W => sInG _ _ _ W
      rcases (Decidable.em (1 ≤ f0 ∧ f0 ≤ 2)).symm with t1 | t1
      · have hR := NJ.out (by rw [HRW.out, decide_eq_false t1]; rfl)
        subst hR
        rw [decide_eq_false t1] at A1
        clear t1
        repeat (first | go_values | go_skip | go_guarded | go_step | go_upon)
        refine wp_region_kept (by kernel_rfl) (by kernel_rfl) ?_
        have hne := kw_some W6
        have hcc := KW.cell_eq W6
        have hcf := fun (x : KW W6) (b o : Nat) (hb : b < W6.heap.size) => x.k.frozen_eq b o hb
        repeat (first | (go_big_quiet_step (first | (go_at_call 41; with_reducible exact kw_same (AN.out _)) | (go_at_call 24; with_reducible exact kw_same (A1.out _)) | (go_at_call 24; with_reducible exact kw_same (A2.out _)) | (go_at_call 24; with_reducible exact kw_same (A3.out _)))) | (go_big_quiet_want; go_big_quiet_op; refine ⟨_, fun _ => (by with_reducible rfl), ?_⟩; go_big_quiet_on))
        refine wpQuiet_nil ?_
        rintro w5 ⟨⟨w8, k5⟩, h9⟩
        change w5 = w8 at h9
        subst h9
        clear hcc hne hcf
        repeat (first | go_values | go_skip | go_guarded | go_step | go_upon)
        go_ret
        exact ⟨rfl, HK6.out.trans k5⟩
      rw [decide_eq_true t1] at A1
      have HR1 : Hid (rowC l k = (fromB l k f0 && changeB f1 f2 f3 f4)) := by show _ = _; rw [HRW.out, decide_eq_true t1]; rfl
      clear t1 HRW
      by_cases h0 : 0 < k
      · obtain ⟨j', hj'⟩ : ∃ j', k = j' + 1 := ⟨k - 1, by omega⟩
        obtain ⟨a, hq⟩ : ∃ r, l[j']? = some r := ⟨_, List.getElem?_eq_getElem (by omega)⟩
        obtain ⟨bb2, o2, cap2, e2, r0, r1, r2, r3, r4⟩ := chg_get HV6.out hq
        cases e2
        have HO : Hid (fromB l k f0 = decide (a.1 ≤ f0)) := from_next hj' hq
        obtain ⟨g, ga, gb, gc, gd⟩ := a
        dsimp only at r0 r1 r2 r3 r4 HO
        have rl := World.block_lt_of_cell? _ _ r0
        have dj : decide (0 < k) = true := decide_eq_true h0
        have dk : decide ((0 : Int) < (k : Int)) = true := by simp; omega
        have ej : IntKind.i64.wrap ((k : Int) - 1) = (j' : Int) := by rw [IntWalk.i64_in _ (by omega)]; omega
        have y1' : (0 : Int) ≤ (j' : Int) := by omega
        have y2' : (j' : Int) < (l.length : Int) := by omega
        clear hj' hq r1 r2 r3 r4
        rcases (Decidable.em (g ≤ f0)).symm with t2 | t2
        · have dg : decide (f0 < g) = true := decide_eq_true (by omega)
          have hR := NJ.out (by rw [HR1.out, HO.out, decide_eq_false t2]; rfl)
          subst hR
          clear t2 HO
          repeat (first | go_values | go_skip | go_guarded | go_step | go_upon)
          refine wp_region_kept (by kernel_rfl) (by kernel_rfl) ?_
          have hne := kw_some W6
          have hcc := KW.cell_eq W6
          have hcf := fun (x : KW W6) (b o : Nat) (hb : b < W6.heap.size) => x.k.frozen_eq b o hb
          repeat (first | (go_big_quiet_step (first | (go_at_call 41; with_reducible exact kw_same (AN.out _)) | (go_at_call 24; with_reducible exact kw_same (A1.out _)) | (go_at_call 24; with_reducible exact kw_same (A2.out _)) | (go_at_call 24; with_reducible exact kw_same (A3.out _)))) | (go_big_quiet_want; go_big_quiet_op; refine ⟨_, fun _ => (by with_reducible rfl), ?_⟩; go_big_quiet_on))
          refine wpQuiet_nil ?_
          rintro w5 ⟨⟨w8, k5⟩, h9⟩
          change w5 = w8 at h9
          subst h9
          clear hcc hne hcf
          repeat (first | go_values | go_skip | go_guarded | go_step | go_upon)
          go_ret
          exact ⟨rfl, HK6.out.trans k5⟩
        have dg : decide (f0 < g) = false := decide_eq_false (by omega)
        have HR2 : Hid (rowC l k = changeB f1 f2 f3 f4) := by show _ = _; rw [HR1.out, HO.out, decide_eq_true t2]; rfl
        clear t2 HO HR1
        rcases (Decidable.em (1 ≤ f1 ∧ f1 ≤ 5)).symm with t3 | t3
        · have hR := NJ.out (by
            rw [HR2.out]; unfold changeB
            rw [if_neg (by omega), if_neg (by omega), decide_eq_false (show ¬ (f1 = 2 ∨ f1 = 3 ∨ f1 = 5) by omega)]
            simp)
          subst hR
          rw [decide_eq_false t3] at A2
          clear t3
          repeat (first | go_values | go_skip | go_guarded | go_step | go_upon)
          refine wp_region_kept (by kernel_rfl) (by kernel_rfl) ?_
          have hne := kw_some W6
          have hcc := KW.cell_eq W6
          have hcf := fun (x : KW W6) (b o : Nat) (hb : b < W6.heap.size) => x.k.frozen_eq b o hb
          repeat (first | (go_big_quiet_step (first | (go_at_call 41; with_reducible exact kw_same (AN.out _)) | (go_at_call 24; with_reducible exact kw_same (A1.out _)) | (go_at_call 24; with_reducible exact kw_same (A2.out _)) | (go_at_call 24; with_reducible exact kw_same (A3.out _)))) | (go_big_quiet_want; go_big_quiet_op; refine ⟨_, fun _ => (by with_reducible rfl), ?_⟩; go_big_quiet_on))
          refine wpQuiet_nil ?_
          rintro w5 ⟨⟨w8, k5⟩, h9⟩
          change w5 = w8 at h9
          subst h9
          clear hcc hne hcf
          repeat (first | go_values | go_skip | go_guarded | go_step | go_upon)
          go_ret
          exact ⟨rfl, HK6.out.trans k5⟩
        rw [decide_eq_true t3] at A2
        cases q1 : nameB f2 with
        | false =>
          have hR := NJ.out (by rw [HR2.out]; unfold changeB; rw [q1]; rfl)
          subst hR
          rw [q1] at AN
          clear t3
          repeat (first | go_values | go_skip | go_guarded | go_step | go_upon)
          refine wp_region_kept (by kernel_rfl) (by kernel_rfl) ?_
          have hne := kw_some W6
          have hcc := KW.cell_eq W6
          have hcf := fun (x : KW W6) (b o : Nat) (hb : b < W6.heap.size) => x.k.frozen_eq b o hb
          repeat (first | (go_big_quiet_step (first | (go_at_call 41; with_reducible exact kw_same (AN.out _)) | (go_at_call 24; with_reducible exact kw_same (A1.out _)) | (go_at_call 24; with_reducible exact kw_same (A2.out _)) | (go_at_call 24; with_reducible exact kw_same (A3.out _)))) | (go_big_quiet_want; go_big_quiet_op; refine ⟨_, fun _ => (by with_reducible rfl), ?_⟩; go_big_quiet_on))
          refine wpQuiet_nil ?_
          rintro w5 ⟨⟨w8, k5⟩, h9⟩
          change w5 = w8 at h9
          subst h9
          clear hcc hne hcf
          repeat (first | go_values | go_skip | go_guarded | go_step | go_upon)
          go_ret
          exact ⟨rfl, HK6.out.trans k5⟩
        | true =>
          rw [q1] at AN
          rcases (Decidable.em (-1000000 ≤ f4 ∧ f4 ≤ 1000000)).symm with t4 | t4
          · have hR := NJ.out (by
              rw [HR2.out]; unfold changeB
              by_cases h : -1000000 ≤ f4
              · rw [decide_eq_false (show ¬ f4 ≤ 1000000 by omega)]; simp
              · rw [decide_eq_false h]; simp)
            subst hR
            rw [decide_eq_false t4] at A3
            clear t3 t4
            repeat (first | go_values | go_skip | go_guarded | go_step | go_upon)
            refine wp_region_kept (by kernel_rfl) (by kernel_rfl) ?_
            have hne := kw_some W6
            have hcc := KW.cell_eq W6
            have hcf := fun (x : KW W6) (b o : Nat) (hb : b < W6.heap.size) => x.k.frozen_eq b o hb
            repeat (first | (go_big_quiet_step (first | (go_at_call 41; with_reducible exact kw_same (AN.out _)) | (go_at_call 24; with_reducible exact kw_same (A1.out _)) | (go_at_call 24; with_reducible exact kw_same (A2.out _)) | (go_at_call 24; with_reducible exact kw_same (A3.out _)))) | (go_big_quiet_want; go_big_quiet_op; refine ⟨_, fun _ => (by with_reducible rfl), ?_⟩; go_big_quiet_on))
            refine wpQuiet_nil ?_
            rintro w5 ⟨⟨w8, k5⟩, h9⟩
            change w5 = w8 at h9
            subst h9
            clear hcc hne hcf
            repeat (first | go_values | go_skip | go_guarded | go_step | go_upon)
            go_ret
            exact ⟨rfl, HK6.out.trans k5⟩
          rw [decide_eq_true t4] at A3
          have HR3 : Hid (rowC l k = (if f1 = 1 then nameB f3 && decide (f4 = 0) else if f1 = 4 then emptyB f3 && decide (f4 = 0) else emptyB f3)) := by
            show _ = _
            rw [HR2.out]; unfold changeB
            rw [q1, decide_eq_true t4.1, decide_eq_true t4.2]
            by_cases e1 : f1 = 1
            · rw [if_pos e1, if_pos e1]; rfl
            · by_cases e4 : f1 = 4
              · rw [if_neg e1, if_neg e1, if_pos e4, if_pos e4]; rfl
              · rw [if_neg e1, if_neg e1, if_neg e4, if_neg e4, decide_eq_true (show f1 = 2 ∨ f1 = 3 ∨ f1 = 5 by omega)]; rfl
          clear HR2 t3 t4
          obtain ⟨y, hy⟩ : ∃ y : Bool, f3.toList.isEmpty = y := ⟨_, rfl⟩
          have HY : Hid (emptyB f3 = y) := hy
          by_cases e1 : f1 = 1
          · have HR9 : Hid (rowC l k = (nameB f3 && decide (f4 = 0))) := by show _ = _; rw [HR3.out, if_pos e1]
            clear HR3 HY hy
            subst e1
            cases q2 : nameB f3 with
            | false =>
              have hR := NJ.out (by rw [HR9.out, q2]; rfl)
              subst hR
              rw [q2] at AT
              repeat (first | go_values | go_skip | go_guarded | go_step | go_upon)
              refine wp_region_kept (by kernel_rfl) (by kernel_rfl) ?_
              have hne := kw_some W6
              have hcc := KW.cell_eq W6
              have hcf := fun (x : KW W6) (b o : Nat) (hb : b < W6.heap.size) => x.k.frozen_eq b o hb
              repeat (first | (go_big_quiet_step (first | (go_at_call 41; with_reducible exact kw_same (AN.out _)) | (go_at_call 24; with_reducible exact kw_same (A1.out _)) | (go_at_call 24; with_reducible exact kw_same (A2.out _)) | (go_at_call 24; with_reducible exact kw_same (A3.out _)))) | (go_big_quiet_want; go_big_quiet_op; refine ⟨_, fun _ => (by with_reducible rfl), ?_⟩; go_big_quiet_on))
              refine wpQuiet_nil ?_
              rintro w5 ⟨⟨w8, k5⟩, h9⟩
              change w5 = w8 at h9
              subst h9
              clear hcc hne hcf
              have hL5 := HLX.out.kept k5
              have x1 := hL5.cell 1 rfl
              have x2 := hL5.cell 2 rfl
              have x3 := hL5.cell 3 rfl
              have x4 := hL5.cell 4 rfl
              have xl := hL5.lt
              clear hL5
              
              repeat (first | (go_at_call 41; with_reducible refine (AT.out _).mono ?_; rintro e w9 ⟨rfl, hw9⟩; rw [hw9]; clear hw9 w9; dsimp only) | go_values | go_skip | go_guarded | go_step | go_upon)
              go_ret
              exact ⟨rfl, HK6.out.trans k5⟩
            | true =>
              have HR4 : Hid (rowC l k = (true && decide (f4 = 0))) := by show _ = _; rw [HR9.out, q2]
              rw [q2] at AT
              clear HR9
              by_cases ez : f4 = 0
              · have HOK : Hid (rowC l k = true) := by show _ = _; rw [HR4.out, decide_eq_true ez]; rfl
                clear HR4
                subst ez
                repeat (first | go_values | go_skip | go_guarded | go_step | go_upon)
                refine wp_region_kept (by kernel_rfl) (by kernel_rfl) ?_
                have hne := kw_some W6
                have hcc := KW.cell_eq W6
                have hcf := fun (x : KW W6) (b o : Nat) (hb : b < W6.heap.size) => x.k.frozen_eq b o hb
                repeat (first | (go_big_quiet_step (first | (go_at_call 41; with_reducible exact kw_same (AN.out _)) | (go_at_call 24; with_reducible exact kw_same (A1.out _)) | (go_at_call 24; with_reducible exact kw_same (A2.out _)) | (go_at_call 24; with_reducible exact kw_same (A3.out _)))) | (go_big_quiet_want; go_big_quiet_op; refine ⟨_, fun _ => (by with_reducible rfl), ?_⟩; go_big_quiet_on))
                refine wpQuiet_nil ?_
                rintro w5 ⟨⟨w8, k5⟩, h9⟩
                change w5 = w8 at h9
                subst h9
                clear hcc hne hcf
                have hL5 := HLX.out.kept k5
                have x1 := hL5.cell 1 rfl
                have x2 := hL5.cell 2 rfl
                have x3 := hL5.cell 3 rfl
                have x4 := hL5.cell 4 rfl
                have xl := hL5.lt
                clear hL5
                have HK5 : Hid (Kept w w5) := HK6.out.trans k5
                clear k5
                repeat (first | (go_at_call 41; with_reducible refine (AT.out _).mono ?_; rintro e w9 ⟨rfl, hw9⟩; rw [hw9]; clear hw9 w9; dsimp only) | go_values | go_skip | go_guarded | go_step | go_upon)
                exact ⟨⟨k + 1, hlt, by go_num, all_more HB.out HOK.out, HK5.out⟩, by simp [intOf]; omega⟩
              · have dz : (f4 == 0) = false := by simpa using ez
                have hR := NJ.out (by rw [HR4.out, decide_eq_false ez]; rfl)
                subst hR
                clear ez
                repeat (first | go_values | go_skip | go_guarded | go_step | go_upon)
                refine wp_region_kept (by kernel_rfl) (by kernel_rfl) ?_
                have hne := kw_some W6
                have hcc := KW.cell_eq W6
                have hcf := fun (x : KW W6) (b o : Nat) (hb : b < W6.heap.size) => x.k.frozen_eq b o hb
                repeat (first | (go_big_quiet_step (first | (go_at_call 41; with_reducible exact kw_same (AN.out _)) | (go_at_call 24; with_reducible exact kw_same (A1.out _)) | (go_at_call 24; with_reducible exact kw_same (A2.out _)) | (go_at_call 24; with_reducible exact kw_same (A3.out _)))) | (go_big_quiet_want; go_big_quiet_op; refine ⟨_, fun _ => (by with_reducible rfl), ?_⟩; go_big_quiet_on))
                refine wpQuiet_nil ?_
                rintro w5 ⟨⟨w8, k5⟩, h9⟩
                change w5 = w8 at h9
                subst h9
                clear hcc hne hcf
                have hL5 := HLX.out.kept k5
                have x1 := hL5.cell 1 rfl
                have x2 := hL5.cell 2 rfl
                have x3 := hL5.cell 3 rfl
                have x4 := hL5.cell 4 rfl
                have xl := hL5.lt
                clear hL5
                
                repeat (first | (go_at_call 41; with_reducible refine (AT.out _).mono ?_; rintro e w9 ⟨rfl, hw9⟩; rw [hw9]; clear hw9 w9; dsimp only) | go_values | go_skip | go_guarded | go_step | go_upon)
                go_ret
                exact ⟨rfl, HK6.out.trans k5⟩
          have n1 : (f1 == 1) = false := by simpa using e1
          cases y with
          | false =>
            have hR := NJ.out (by rw [HR3.out, if_neg e1, HY.out]; simp)
            subst hR
            clear HR3 e1
            repeat (first | go_values | go_skip | go_guarded | go_step | go_upon)
            refine wp_region_kept (by kernel_rfl) (by kernel_rfl) ?_
            have hne := kw_some W6
            have hcc := KW.cell_eq W6
            have hcf := fun (x : KW W6) (b o : Nat) (hb : b < W6.heap.size) => x.k.frozen_eq b o hb
            repeat (first | (go_big_quiet_step (first | (go_at_call 41; with_reducible exact kw_same (AN.out _)) | (go_at_call 24; with_reducible exact kw_same (A1.out _)) | (go_at_call 24; with_reducible exact kw_same (A2.out _)) | (go_at_call 24; with_reducible exact kw_same (A3.out _)))) | (go_big_quiet_want; go_big_quiet_op; refine ⟨_, fun _ => (by with_reducible rfl), ?_⟩; go_big_quiet_on))
            refine wpQuiet_nil ?_
            rintro w5 ⟨⟨w8, k5⟩, h9⟩
            change w5 = w8 at h9
            subst h9
            clear hcc hne hcf
            have hL5 := HLX.out.kept k5
            have x1 := hL5.cell 1 rfl
            have x2 := hL5.cell 2 rfl
            have x3 := hL5.cell 3 rfl
            have x4 := hL5.cell 4 rfl
            have xl := hL5.lt
            clear hL5
            
            repeat (first | (go_at_call 41; with_reducible refine (AT.out _).mono ?_; rintro e w9 ⟨rfl, hw9⟩; rw [hw9]; clear hw9 w9; dsimp only) | go_values | go_skip | go_guarded | go_step | go_upon)
            go_ret
            exact ⟨rfl, HK6.out.trans k5⟩
          | true =>
            by_cases e4 : f1 = 4
            · have HR4 : Hid (rowC l k = (true && decide (f4 = 0))) := by show _ = _; rw [HR3.out, if_neg e1, if_pos e4, HY.out]
              clear HR3 e1 n1
              subst e4
              by_cases ez : f4 = 0
              · have HOK : Hid (rowC l k = true) := by show _ = _; rw [HR4.out, decide_eq_true ez]; rfl
                clear HR4
                subst ez
                repeat (first | go_values | go_skip | go_guarded | go_step | go_upon)
                refine wp_region_kept (by kernel_rfl) (by kernel_rfl) ?_
                have hne := kw_some W6
                have hcc := KW.cell_eq W6
                have hcf := fun (x : KW W6) (b o : Nat) (hb : b < W6.heap.size) => x.k.frozen_eq b o hb
                repeat (first | (go_big_quiet_step (first | (go_at_call 41; with_reducible exact kw_same (AN.out _)) | (go_at_call 24; with_reducible exact kw_same (A1.out _)) | (go_at_call 24; with_reducible exact kw_same (A2.out _)) | (go_at_call 24; with_reducible exact kw_same (A3.out _)))) | (go_big_quiet_want; go_big_quiet_op; refine ⟨_, fun _ => (by with_reducible rfl), ?_⟩; go_big_quiet_on))
                refine wpQuiet_nil ?_
                rintro w5 ⟨⟨w8, k5⟩, h9⟩
                change w5 = w8 at h9
                subst h9
                clear hcc hne hcf
                have hL5 := HLX.out.kept k5
                have x1 := hL5.cell 1 rfl
                have x2 := hL5.cell 2 rfl
                have x3 := hL5.cell 3 rfl
                have x4 := hL5.cell 4 rfl
                have xl := hL5.lt
                clear hL5
                have HK5 : Hid (Kept w w5) := HK6.out.trans k5
                clear k5
                repeat (first | (go_at_call 41; with_reducible refine (AT.out _).mono ?_; rintro e w9 ⟨rfl, hw9⟩; rw [hw9]; clear hw9 w9; dsimp only) | go_values | go_skip | go_guarded | go_step | go_upon)
                exact ⟨⟨k + 1, hlt, by go_num, all_more HB.out HOK.out, HK5.out⟩, by simp [intOf]; omega⟩
              · have dz : (f4 == 0) = false := by simpa using ez
                have hR := NJ.out (by rw [HR4.out, decide_eq_false ez]; rfl)
                subst hR
                clear ez
                repeat (first | go_values | go_skip | go_guarded | go_step | go_upon)
                refine wp_region_kept (by kernel_rfl) (by kernel_rfl) ?_
                have hne := kw_some W6
                have hcc := KW.cell_eq W6
                have hcf := fun (x : KW W6) (b o : Nat) (hb : b < W6.heap.size) => x.k.frozen_eq b o hb
                repeat (first | (go_big_quiet_step (first | (go_at_call 41; with_reducible exact kw_same (AN.out _)) | (go_at_call 24; with_reducible exact kw_same (A1.out _)) | (go_at_call 24; with_reducible exact kw_same (A2.out _)) | (go_at_call 24; with_reducible exact kw_same (A3.out _)))) | (go_big_quiet_want; go_big_quiet_op; refine ⟨_, fun _ => (by with_reducible rfl), ?_⟩; go_big_quiet_on))
                refine wpQuiet_nil ?_
                rintro w5 ⟨⟨w8, k5⟩, h9⟩
                change w5 = w8 at h9
                subst h9
                clear hcc hne hcf
                have hL5 := HLX.out.kept k5
                have x1 := hL5.cell 1 rfl
                have x2 := hL5.cell 2 rfl
                have x3 := hL5.cell 3 rfl
                have x4 := hL5.cell 4 rfl
                have xl := hL5.lt
                clear hL5
                
                repeat (first | (go_at_call 41; with_reducible refine (AT.out _).mono ?_; rintro e w9 ⟨rfl, hw9⟩; rw [hw9]; clear hw9 w9; dsimp only) | go_values | go_skip | go_guarded | go_step | go_upon)
                go_ret
                exact ⟨rfl, HK6.out.trans k5⟩
            · have n4 : (f1 == 4) = false := by simpa using e4
              have HOK : Hid (rowC l k = true) := by show _ = _; rw [HR3.out, if_neg e1, if_neg e4, HY.out]
              clear HR3 e1 e4
              repeat (first | go_values | go_skip | go_guarded | go_step | go_upon)
              refine wp_region_kept (by kernel_rfl) (by kernel_rfl) ?_
              have hne := kw_some W6
              have hcc := KW.cell_eq W6
              have hcf := fun (x : KW W6) (b o : Nat) (hb : b < W6.heap.size) => x.k.frozen_eq b o hb
              repeat (first | (go_big_quiet_step (first | (go_at_call 41; with_reducible exact kw_same (AN.out _)) | (go_at_call 24; with_reducible exact kw_same (A1.out _)) | (go_at_call 24; with_reducible exact kw_same (A2.out _)) | (go_at_call 24; with_reducible exact kw_same (A3.out _)))) | (go_big_quiet_want; go_big_quiet_op; refine ⟨_, fun _ => (by with_reducible rfl), ?_⟩; go_big_quiet_on))
              refine wpQuiet_nil ?_
              rintro w5 ⟨⟨w8, k5⟩, h9⟩
              change w5 = w8 at h9
              subst h9
              clear hcc hne hcf
              have hL5 := HLX.out.kept k5
              have x1 := hL5.cell 1 rfl
              have x2 := hL5.cell 2 rfl
              have x3 := hL5.cell 3 rfl
              have x4 := hL5.cell 4 rfl
              have xl := hL5.lt
              clear hL5
              have HK5 : Hid (Kept w w5) := HK6.out.trans k5
              clear k5
              repeat (first | (go_at_call 41; with_reducible refine (AT.out _).mono ?_; rintro e w9 ⟨rfl, hw9⟩; rw [hw9]; clear hw9 w9; dsimp only) | go_values | go_skip | go_guarded | go_step | go_upon)
              exact ⟨⟨k + 1, hlt, by go_num, all_more HB.out HOK.out, HK5.out⟩, by simp [intOf]; omega⟩
      · have HR2 : Hid (rowC l k = changeB f1 f2 f3 f4) := by show _ = _; rw [HR1.out, from_first (show k = 0 by omega)]; rfl
        have dj : decide (0 < k) = false := decide_eq_false h0
        have dk : decide ((0 : Int) < (k : Int)) = false := by simp; omega
        clear h0 HR1
        rcases (Decidable.em (1 ≤ f1 ∧ f1 ≤ 5)).symm with t3 | t3
        · have hR := NJ.out (by
            rw [HR2.out]; unfold changeB
            rw [if_neg (by omega), if_neg (by omega), decide_eq_false (show ¬ (f1 = 2 ∨ f1 = 3 ∨ f1 = 5) by omega)]
            simp)
          subst hR
          rw [decide_eq_false t3] at A2
          clear t3
          repeat (first | go_values | go_skip | go_guarded | go_step | go_upon)
          refine wp_region_kept (by kernel_rfl) (by kernel_rfl) ?_
          have hne := kw_some W6
          have hcc := KW.cell_eq W6
          have hcf := fun (x : KW W6) (b o : Nat) (hb : b < W6.heap.size) => x.k.frozen_eq b o hb
          repeat (first | (go_big_quiet_step (first | (go_at_call 41; with_reducible exact kw_same (AN.out _)) | (go_at_call 24; with_reducible exact kw_same (A1.out _)) | (go_at_call 24; with_reducible exact kw_same (A2.out _)) | (go_at_call 24; with_reducible exact kw_same (A3.out _)))) | (go_big_quiet_want; go_big_quiet_op; refine ⟨_, fun _ => (by with_reducible rfl), ?_⟩; go_big_quiet_on))
          refine wpQuiet_nil ?_
          rintro w5 ⟨⟨w8, k5⟩, h9⟩
          change w5 = w8 at h9
          subst h9
          clear hcc hne hcf
          repeat (first | go_values | go_skip | go_guarded | go_step | go_upon)
          go_ret
          exact ⟨rfl, HK6.out.trans k5⟩
        rw [decide_eq_true t3] at A2
        cases q1 : nameB f2 with
        | false =>
          have hR := NJ.out (by rw [HR2.out]; unfold changeB; rw [q1]; rfl)
          subst hR
          rw [q1] at AN
          clear t3
          repeat (first | go_values | go_skip | go_guarded | go_step | go_upon)
          refine wp_region_kept (by kernel_rfl) (by kernel_rfl) ?_
          have hne := kw_some W6
          have hcc := KW.cell_eq W6
          have hcf := fun (x : KW W6) (b o : Nat) (hb : b < W6.heap.size) => x.k.frozen_eq b o hb
          repeat (first | (go_big_quiet_step (first | (go_at_call 41; with_reducible exact kw_same (AN.out _)) | (go_at_call 24; with_reducible exact kw_same (A1.out _)) | (go_at_call 24; with_reducible exact kw_same (A2.out _)) | (go_at_call 24; with_reducible exact kw_same (A3.out _)))) | (go_big_quiet_want; go_big_quiet_op; refine ⟨_, fun _ => (by with_reducible rfl), ?_⟩; go_big_quiet_on))
          refine wpQuiet_nil ?_
          rintro w5 ⟨⟨w8, k5⟩, h9⟩
          change w5 = w8 at h9
          subst h9
          clear hcc hne hcf
          repeat (first | go_values | go_skip | go_guarded | go_step | go_upon)
          go_ret
          exact ⟨rfl, HK6.out.trans k5⟩
        | true =>
          rw [q1] at AN
          rcases (Decidable.em (-1000000 ≤ f4 ∧ f4 ≤ 1000000)).symm with t4 | t4
          · have hR := NJ.out (by
              rw [HR2.out]; unfold changeB
              by_cases h : -1000000 ≤ f4
              · rw [decide_eq_false (show ¬ f4 ≤ 1000000 by omega)]; simp
              · rw [decide_eq_false h]; simp)
            subst hR
            rw [decide_eq_false t4] at A3
            clear t3 t4
            repeat (first | go_values | go_skip | go_guarded | go_step | go_upon)
            refine wp_region_kept (by kernel_rfl) (by kernel_rfl) ?_
            have hne := kw_some W6
            have hcc := KW.cell_eq W6
            have hcf := fun (x : KW W6) (b o : Nat) (hb : b < W6.heap.size) => x.k.frozen_eq b o hb
            repeat (first | (go_big_quiet_step (first | (go_at_call 41; with_reducible exact kw_same (AN.out _)) | (go_at_call 24; with_reducible exact kw_same (A1.out _)) | (go_at_call 24; with_reducible exact kw_same (A2.out _)) | (go_at_call 24; with_reducible exact kw_same (A3.out _)))) | (go_big_quiet_want; go_big_quiet_op; refine ⟨_, fun _ => (by with_reducible rfl), ?_⟩; go_big_quiet_on))
            refine wpQuiet_nil ?_
            rintro w5 ⟨⟨w8, k5⟩, h9⟩
            change w5 = w8 at h9
            subst h9
            clear hcc hne hcf
            repeat (first | go_values | go_skip | go_guarded | go_step | go_upon)
            go_ret
            exact ⟨rfl, HK6.out.trans k5⟩
          rw [decide_eq_true t4] at A3
          have HR3 : Hid (rowC l k = (if f1 = 1 then nameB f3 && decide (f4 = 0) else if f1 = 4 then emptyB f3 && decide (f4 = 0) else emptyB f3)) := by
            show _ = _
            rw [HR2.out]; unfold changeB
            rw [q1, decide_eq_true t4.1, decide_eq_true t4.2]
            by_cases e1 : f1 = 1
            · rw [if_pos e1, if_pos e1]; rfl
            · by_cases e4 : f1 = 4
              · rw [if_neg e1, if_neg e1, if_pos e4, if_pos e4]; rfl
              · rw [if_neg e1, if_neg e1, if_neg e4, if_neg e4, decide_eq_true (show f1 = 2 ∨ f1 = 3 ∨ f1 = 5 by omega)]; rfl
          clear HR2 t3 t4
          obtain ⟨y, hy⟩ : ∃ y : Bool, f3.toList.isEmpty = y := ⟨_, rfl⟩
          have HY : Hid (emptyB f3 = y) := hy
          by_cases e1 : f1 = 1
          · have HR9 : Hid (rowC l k = (nameB f3 && decide (f4 = 0))) := by show _ = _; rw [HR3.out, if_pos e1]
            clear HR3 HY hy
            subst e1
            cases q2 : nameB f3 with
            | false =>
              have hR := NJ.out (by rw [HR9.out, q2]; rfl)
              subst hR
              rw [q2] at AT
              repeat (first | go_values | go_skip | go_guarded | go_step | go_upon)
              refine wp_region_kept (by kernel_rfl) (by kernel_rfl) ?_
              have hne := kw_some W6
              have hcc := KW.cell_eq W6
              have hcf := fun (x : KW W6) (b o : Nat) (hb : b < W6.heap.size) => x.k.frozen_eq b o hb
              repeat (first | (go_big_quiet_step (first | (go_at_call 41; with_reducible exact kw_same (AN.out _)) | (go_at_call 24; with_reducible exact kw_same (A1.out _)) | (go_at_call 24; with_reducible exact kw_same (A2.out _)) | (go_at_call 24; with_reducible exact kw_same (A3.out _)))) | (go_big_quiet_want; go_big_quiet_op; refine ⟨_, fun _ => (by with_reducible rfl), ?_⟩; go_big_quiet_on))
              refine wpQuiet_nil ?_
              rintro w5 ⟨⟨w8, k5⟩, h9⟩
              change w5 = w8 at h9
              subst h9
              clear hcc hne hcf
              have hL5 := HLX.out.kept k5
              have x1 := hL5.cell 1 rfl
              have x2 := hL5.cell 2 rfl
              have x3 := hL5.cell 3 rfl
              have x4 := hL5.cell 4 rfl
              have xl := hL5.lt
              clear hL5
              
              repeat (first | (go_at_call 41; with_reducible refine (AT.out _).mono ?_; rintro e w9 ⟨rfl, hw9⟩; rw [hw9]; clear hw9 w9; dsimp only) | go_values | go_skip | go_guarded | go_step | go_upon)
              go_ret
              exact ⟨rfl, HK6.out.trans k5⟩
            | true =>
              have HR4 : Hid (rowC l k = (true && decide (f4 = 0))) := by show _ = _; rw [HR9.out, q2]
              rw [q2] at AT
              clear HR9
              by_cases ez : f4 = 0
              · have HOK : Hid (rowC l k = true) := by show _ = _; rw [HR4.out, decide_eq_true ez]; rfl
                clear HR4
                subst ez
                repeat (first | go_values | go_skip | go_guarded | go_step | go_upon)
                refine wp_region_kept (by kernel_rfl) (by kernel_rfl) ?_
                have hne := kw_some W6
                have hcc := KW.cell_eq W6
                have hcf := fun (x : KW W6) (b o : Nat) (hb : b < W6.heap.size) => x.k.frozen_eq b o hb
                repeat (first | (go_big_quiet_step (first | (go_at_call 41; with_reducible exact kw_same (AN.out _)) | (go_at_call 24; with_reducible exact kw_same (A1.out _)) | (go_at_call 24; with_reducible exact kw_same (A2.out _)) | (go_at_call 24; with_reducible exact kw_same (A3.out _)))) | (go_big_quiet_want; go_big_quiet_op; refine ⟨_, fun _ => (by with_reducible rfl), ?_⟩; go_big_quiet_on))
                refine wpQuiet_nil ?_
                rintro w5 ⟨⟨w8, k5⟩, h9⟩
                change w5 = w8 at h9
                subst h9
                clear hcc hne hcf
                have hL5 := HLX.out.kept k5
                have x1 := hL5.cell 1 rfl
                have x2 := hL5.cell 2 rfl
                have x3 := hL5.cell 3 rfl
                have x4 := hL5.cell 4 rfl
                have xl := hL5.lt
                clear hL5
                have HK5 : Hid (Kept w w5) := HK6.out.trans k5
                clear k5
                repeat (first | (go_at_call 41; with_reducible refine (AT.out _).mono ?_; rintro e w9 ⟨rfl, hw9⟩; rw [hw9]; clear hw9 w9; dsimp only) | go_values | go_skip | go_guarded | go_step | go_upon)
                exact ⟨⟨k + 1, hlt, by go_num, all_more HB.out HOK.out, HK5.out⟩, by simp [intOf]; omega⟩
              · have dz : (f4 == 0) = false := by simpa using ez
                have hR := NJ.out (by rw [HR4.out, decide_eq_false ez]; rfl)
                subst hR
                clear ez
                repeat (first | go_values | go_skip | go_guarded | go_step | go_upon)
                refine wp_region_kept (by kernel_rfl) (by kernel_rfl) ?_
                have hne := kw_some W6
                have hcc := KW.cell_eq W6
                have hcf := fun (x : KW W6) (b o : Nat) (hb : b < W6.heap.size) => x.k.frozen_eq b o hb
                repeat (first | (go_big_quiet_step (first | (go_at_call 41; with_reducible exact kw_same (AN.out _)) | (go_at_call 24; with_reducible exact kw_same (A1.out _)) | (go_at_call 24; with_reducible exact kw_same (A2.out _)) | (go_at_call 24; with_reducible exact kw_same (A3.out _)))) | (go_big_quiet_want; go_big_quiet_op; refine ⟨_, fun _ => (by with_reducible rfl), ?_⟩; go_big_quiet_on))
                refine wpQuiet_nil ?_
                rintro w5 ⟨⟨w8, k5⟩, h9⟩
                change w5 = w8 at h9
                subst h9
                clear hcc hne hcf
                have hL5 := HLX.out.kept k5
                have x1 := hL5.cell 1 rfl
                have x2 := hL5.cell 2 rfl
                have x3 := hL5.cell 3 rfl
                have x4 := hL5.cell 4 rfl
                have xl := hL5.lt
                clear hL5
                
                repeat (first | (go_at_call 41; with_reducible refine (AT.out _).mono ?_; rintro e w9 ⟨rfl, hw9⟩; rw [hw9]; clear hw9 w9; dsimp only) | go_values | go_skip | go_guarded | go_step | go_upon)
                go_ret
                exact ⟨rfl, HK6.out.trans k5⟩
          have n1 : (f1 == 1) = false := by simpa using e1
          cases y with
          | false =>
            have hR := NJ.out (by rw [HR3.out, if_neg e1, HY.out]; simp)
            subst hR
            clear HR3 e1
            repeat (first | go_values | go_skip | go_guarded | go_step | go_upon)
            refine wp_region_kept (by kernel_rfl) (by kernel_rfl) ?_
            have hne := kw_some W6
            have hcc := KW.cell_eq W6
            have hcf := fun (x : KW W6) (b o : Nat) (hb : b < W6.heap.size) => x.k.frozen_eq b o hb
            repeat (first | (go_big_quiet_step (first | (go_at_call 41; with_reducible exact kw_same (AN.out _)) | (go_at_call 24; with_reducible exact kw_same (A1.out _)) | (go_at_call 24; with_reducible exact kw_same (A2.out _)) | (go_at_call 24; with_reducible exact kw_same (A3.out _)))) | (go_big_quiet_want; go_big_quiet_op; refine ⟨_, fun _ => (by with_reducible rfl), ?_⟩; go_big_quiet_on))
            refine wpQuiet_nil ?_
            rintro w5 ⟨⟨w8, k5⟩, h9⟩
            change w5 = w8 at h9
            subst h9
            clear hcc hne hcf
            have hL5 := HLX.out.kept k5
            have x1 := hL5.cell 1 rfl
            have x2 := hL5.cell 2 rfl
            have x3 := hL5.cell 3 rfl
            have x4 := hL5.cell 4 rfl
            have xl := hL5.lt
            clear hL5
            
            repeat (first | (go_at_call 41; with_reducible refine (AT.out _).mono ?_; rintro e w9 ⟨rfl, hw9⟩; rw [hw9]; clear hw9 w9; dsimp only) | go_values | go_skip | go_guarded | go_step | go_upon)
            go_ret
            exact ⟨rfl, HK6.out.trans k5⟩
          | true =>
            by_cases e4 : f1 = 4
            · have HR4 : Hid (rowC l k = (true && decide (f4 = 0))) := by show _ = _; rw [HR3.out, if_neg e1, if_pos e4, HY.out]
              clear HR3 e1 n1
              subst e4
              by_cases ez : f4 = 0
              · have HOK : Hid (rowC l k = true) := by show _ = _; rw [HR4.out, decide_eq_true ez]; rfl
                clear HR4
                subst ez
                repeat (first | go_values | go_skip | go_guarded | go_step | go_upon)
                refine wp_region_kept (by kernel_rfl) (by kernel_rfl) ?_
                have hne := kw_some W6
                have hcc := KW.cell_eq W6
                have hcf := fun (x : KW W6) (b o : Nat) (hb : b < W6.heap.size) => x.k.frozen_eq b o hb
                repeat (first | (go_big_quiet_step (first | (go_at_call 41; with_reducible exact kw_same (AN.out _)) | (go_at_call 24; with_reducible exact kw_same (A1.out _)) | (go_at_call 24; with_reducible exact kw_same (A2.out _)) | (go_at_call 24; with_reducible exact kw_same (A3.out _)))) | (go_big_quiet_want; go_big_quiet_op; refine ⟨_, fun _ => (by with_reducible rfl), ?_⟩; go_big_quiet_on))
                refine wpQuiet_nil ?_
                rintro w5 ⟨⟨w8, k5⟩, h9⟩
                change w5 = w8 at h9
                subst h9
                clear hcc hne hcf
                have hL5 := HLX.out.kept k5
                have x1 := hL5.cell 1 rfl
                have x2 := hL5.cell 2 rfl
                have x3 := hL5.cell 3 rfl
                have x4 := hL5.cell 4 rfl
                have xl := hL5.lt
                clear hL5
                have HK5 : Hid (Kept w w5) := HK6.out.trans k5
                clear k5
                repeat (first | (go_at_call 41; with_reducible refine (AT.out _).mono ?_; rintro e w9 ⟨rfl, hw9⟩; rw [hw9]; clear hw9 w9; dsimp only) | go_values | go_skip | go_guarded | go_step | go_upon)
                exact ⟨⟨k + 1, hlt, by go_num, all_more HB.out HOK.out, HK5.out⟩, by simp [intOf]; omega⟩
              · have dz : (f4 == 0) = false := by simpa using ez
                have hR := NJ.out (by rw [HR4.out, decide_eq_false ez]; rfl)
                subst hR
                clear ez
                repeat (first | go_values | go_skip | go_guarded | go_step | go_upon)
                refine wp_region_kept (by kernel_rfl) (by kernel_rfl) ?_
                have hne := kw_some W6
                have hcc := KW.cell_eq W6
                have hcf := fun (x : KW W6) (b o : Nat) (hb : b < W6.heap.size) => x.k.frozen_eq b o hb
                repeat (first | (go_big_quiet_step (first | (go_at_call 41; with_reducible exact kw_same (AN.out _)) | (go_at_call 24; with_reducible exact kw_same (A1.out _)) | (go_at_call 24; with_reducible exact kw_same (A2.out _)) | (go_at_call 24; with_reducible exact kw_same (A3.out _)))) | (go_big_quiet_want; go_big_quiet_op; refine ⟨_, fun _ => (by with_reducible rfl), ?_⟩; go_big_quiet_on))
                refine wpQuiet_nil ?_
                rintro w5 ⟨⟨w8, k5⟩, h9⟩
                change w5 = w8 at h9
                subst h9
                clear hcc hne hcf
                have hL5 := HLX.out.kept k5
                have x1 := hL5.cell 1 rfl
                have x2 := hL5.cell 2 rfl
                have x3 := hL5.cell 3 rfl
                have x4 := hL5.cell 4 rfl
                have xl := hL5.lt
                clear hL5
                
                repeat (first | (go_at_call 41; with_reducible refine (AT.out _).mono ?_; rintro e w9 ⟨rfl, hw9⟩; rw [hw9]; clear hw9 w9; dsimp only) | go_values | go_skip | go_guarded | go_step | go_upon)
                go_ret
                exact ⟨rfl, HK6.out.trans k5⟩
            · have n4 : (f1 == 4) = false := by simpa using e4
              have HOK : Hid (rowC l k = true) := by show _ = _; rw [HR3.out, if_neg e1, if_neg e4, HY.out]
              clear HR3 e1 e4
              repeat (first | go_values | go_skip | go_guarded | go_step | go_upon)
              refine wp_region_kept (by kernel_rfl) (by kernel_rfl) ?_
              have hne := kw_some W6
              have hcc := KW.cell_eq W6
              have hcf := fun (x : KW W6) (b o : Nat) (hb : b < W6.heap.size) => x.k.frozen_eq b o hb
              repeat (first | (go_big_quiet_step (first | (go_at_call 41; with_reducible exact kw_same (AN.out _)) | (go_at_call 24; with_reducible exact kw_same (A1.out _)) | (go_at_call 24; with_reducible exact kw_same (A2.out _)) | (go_at_call 24; with_reducible exact kw_same (A3.out _)))) | (go_big_quiet_want; go_big_quiet_op; refine ⟨_, fun _ => (by with_reducible rfl), ?_⟩; go_big_quiet_on))
              refine wpQuiet_nil ?_
              rintro w5 ⟨⟨w8, k5⟩, h9⟩
              change w5 = w8 at h9
              subst h9
              clear hcc hne hcf
              have hL5 := HLX.out.kept k5
              have x1 := hL5.cell 1 rfl
              have x2 := hL5.cell 2 rfl
              have x3 := hL5.cell 3 rfl
              have x4 := hL5.cell 4 rfl
              have xl := hL5.lt
              clear hL5
              have HK5 : Hid (Kept w w5) := HK6.out.trans k5
              clear k5
              repeat (first | (go_at_call 41; with_reducible refine (AT.out _).mono ?_; rintro e w9 ⟨rfl, hw9⟩; rw [hw9]; clear hw9 w9; dsimp only) | go_values | go_skip | go_guarded | go_step | go_upon)
              exact ⟨⟨k + 1, hlt, by go_num, all_more HB.out HOK.out, HK5.out⟩, by simp [intOf]; omega⟩
    · have hke : k = l.length := by omega
      subst hke
      have hR := YES.out ⟨by omega, HB.out⟩
      subst hR
      repeat (first | go_values | go_skip | go_guarded | go_step | go_upon)
      go_ret
      exact ⟨rfl, hkp⟩

end Go.Proofs.YtklgjhemcofhhaaDoor
