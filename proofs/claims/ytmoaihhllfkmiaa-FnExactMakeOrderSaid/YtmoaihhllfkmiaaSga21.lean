/-
  Which assets are good: the specification.
-/
import Derived.Test.YtmoaihhllfkmiaaImo21
import Derived.BigQuiet
import Derived.Deep.Cut
import Derived.WalkLawsBesides
namespace Go.Proofs.Ytmoaihhllfkmiaa
open Go.ChangeShapes Go.WideShapes Go.ChangeAt Go.RowKit

set_option maxRecDepth 100000
set_option linter.unusedVariables false
set_option linter.unusedSimpArgs false

theorem then_exit {F : Act → World → Prop} {R : Exit → Act → World → Prop} {n : Nat} {a : Act} {w : World} (h : R (.exit n) a w) : Exit.then F R (.exit n) a w := h
theorem then_normal {F : Act → World → Prop} {R : Exit → Act → World → Prop} {a : Act} {w : World} (h : F a w) : Exit.then F R .normal a w := h
theorem block_hit {id : Nat} {Q : Exit → Act → World → Prop} {a : Act} {w : World} (h : Q .normal a w) : Exit.inBlock id Q (.exit id) a w := by
  show (if id = id then Q .normal a w else Q (.exit id) a w)
  rw [if_pos rfl]
  exact h
theorem block_normal {id : Nat} {Q : Exit → Act → World → Prop} {a : Act} {w : World} (h : Q .normal a w) : Exit.inBlock id Q .normal a w := h
theorem forgetX {P : Program} {c : Go.Code} {Q : Exit → Act → World → Prop} {a : Act} {W : World} (F : World → Prop) (hF : F W) (h : ∀ W', F W' → Code.wp P c Q a W') : Code.wp P c Q a W := h W hF

set_option maxHeartbeats 16000000 in
theorem sga (l : List AssetE) (v : Value) (w : World) (hv : AssetAt w v l) (hn : l.length ≤ 1048576) (hs0 : ∀ d ∈ l, ASz d) :
    Calls Try.prog 17 #[v] w fun e w' => e = .returned (.bool (decide (AssetsP l))) ∧ Kept w w' := by
  obtain ⟨ao, cap, hsl⟩ := row_nil hv.1
  subst hsl
  have HS : Hid (∀ d ∈ l, ASz d) := hs0
  have HVW : Hid (AssetAt w (.slice ao l.length cap) l) := hv
  clear hs0 hv
  have NO : Hid (¬ AssetsP l → decide (AssetsP l) = false) := decide_eq_false
  have RES : Hid (EachP l → decide ((ordL l).length = l.length) = decide (AssetsP l)) := fun h => decide_eq_decide.2 ⟨fun h2 => ⟨h, h2⟩, fun h2 => h2.2⟩
  generalize decide (AssetsP l) = R at *
  by_cases h2 : 30 < l.length
  · have hd2 : decide ((30 : Int) < (l.length : Int)) = true := decide_eq_true (by omega)
    rw [NO.out fun h => by have := h.1.2.1; rw [namesA_len] at this; omega]
    go_enter Try.func17, Try.ntmps17
    repeat (first | go_values | go_skip | go_guarded | go_step | go_upon)
    go_ret
    exact ⟨rfl, But.refl _ _ _⟩
  have hd2 : decide ((30 : Int) < (l.length : Int)) = false := decide_eq_false (by omega)
  go_enter Try.func17, Try.ntmps17
  repeat (first | go_values | go_skip | go_guarded | go_step | go_upon)
  clear hd2
  go_loopw [12] (fun i wr => ∃ (k : Nat), k ≤ l.length ∧ i = .int .i64 k ∧ Hid (∀ j, j < k → ((∀ d, l[j]? = some d → KeysP 10 d.2.1.2 ∧ d.2.2.2.length ≤ 400) ∧ KeyOk (namesA l) j)) ∧ Kept w wr) (fun i _ => l.length - (intOf i).toNat)
  case atStart => exact ⟨0, by omega, rfl, fun j hj => by omega, But.refl _ _ _⟩
  case round =>
    rename World => wo
    obtain ⟨k, hk, rfl, HB, hkp⟩ := hrel
    by_cases hlt : k < l.length
    · obtain ⟨d, hd⟩ : ∃ p, l[k]? = some p := ⟨_, List.getElem?_eq_getElem hlt⟩
      obtain ⟨b, o, cap', e, c0, c1, c2, hpt, hpb⟩ := asset_get (HVW.out.kept hkp) hd
      cases e
      have hsz := HS.out d (List.mem_of_getElem? hd)
      have HP : Hid (l[k]? = some d) := hd
      have HV : Hid (AssetAt wo (.slice (some ⟨b, o, none⟩) l.length cap) l) := HVW.out.kept hkp
      obtain ⟨d0, ⟨d1, t1⟩, ⟨d2, t2⟩⟩ := d
      dsimp only at c0 c1 c2 hsz hpt hpb
      obtain ⟨a1, p1, hs1⟩ := row_nil hpt
      subst hs1
      obtain ⟨a2, p2, hs2⟩ := row_nil hpb
      subst hs2
      have NJ : Hid (¬ (KeysP 10 t1 ∧ t2.length ≤ 400 ∧ KeyOk (namesA l) k) → R = false) := fun h => NO.out (fun h' => h ⟨(h'.1.1 _ (List.mem_of_getElem? HP.out)).1, (h'.1.1 _ (List.mem_of_getElem? HP.out)).2, h'.1.2.2 k (by rw [namesA_len]; exact hlt)⟩)
      have hgw : b < wo.heap.size := World.block_lt_of_cell? _ _ c0
      have z0 : (0 : Int) ≤ (k : Int) := by omega
      have z1 : (k : Int) < (l.length : Int) := by omega
      have HK : Hid (Kept w wo) := hkp
      have HSZ : Hid (ASz (d0, (.slice a1 t1.length p1, t1), (.slice a2 t2.length p2, t2))) := hsz
      have HT : Hid (TxtAt wo (.slice a1 t1.length p1) t1) := hpt
      clear hd hkp hsz hpt hpb
      have LX := Loc.new wo [.string d0, .slice a1 t1.length p1, .slice a2 t2.length p2] 30
      repeat (go_not_at_region 6; first | go_values | go_skip | go_guarded | go_step | go_upon)
      refine forgetX (fun W6 => Kept wo W6 ∧ Loc W6 wo.heap.size [.string d0, .slice a1 t1.length p1, .slice a2 t2.length p2]) ⟨(But.refl _ _ _).alloc _, LX⟩ ?_
      intro W6 hW6
      obtain ⟨k6, LX⟩ := hW6
      clear c0 c1 c2
      have HL6 : Hid (Loc W6 wo.heap.size [.string d0, .slice a1 t1.length p1, .slice a2 t2.length p2]) := LX
      have x0 := LX.cell 0 rfl
      have x1 := LX.cell 1 rfl
      have x2 := LX.cell 2 rfl
      have xl := LX.lt
      have HK6 : Hid (Kept w W6) := HK.out.trans k6
      have HV6 : Hid (AssetAt W6 (.slice (some ⟨b, o, none⟩) l.length cap) l) := HV.out.kept k6
      have HT6 : Hid (TxtAt W6 (.slice a1 t1.length p1) t1) := HT.out.kept k6
      clear k6 LX HV HK hgw HT
      have AN : Hid (∀ W, Calls Try.prog 51 #[.string d0] W fun e w' => e = .returned (.bool (nameB d0)) ∧ w' = W) := fun W => sname d0 W HSZ.out.1
      have A3 : Hid (∀ x : KW W6, Calls Try.prog 55 #[.slice a1 t1.length p1, .int .i64 10] x.w fun e w' => e = .returned (.bool (decide (KeysP 10 t1))) ∧ Kept x.w w') := fun x => snm3 t1 10 _ x.w (HT6.out.kept x.k) (by omega) HSZ.out.2.1 HSZ.out.2.2
      cases q1 : nameB d0 with
      | false =>
        have hR := NJ.out (fun h => key_no (namesA_get HP.out) q1 h.2.2)
        subst hR
        rw [q1] at AN
        repeat (first | go_values | go_skip | go_guarded | go_step | go_upon)
        refine wp_region_kept (by kernel_rfl) (by kernel_rfl) ?_
        have hne := kw_some W6
        have hcc := KW.cell_eq W6
        have hcf := fun (x : KW W6) (b o : Nat) (hb : b < W6.heap.size) => x.k.frozen_eq b o hb
        repeat (first | (go_big_quiet_step (first | (go_at_call 51; with_reducible exact kw_same (AN.out _)) | (go_at_call 55; with_reducible exact kw_call (A3.out _)))) | (go_big_quiet_want; go_big_quiet_op; refine ⟨_, fun _ => (by with_reducible rfl), ?_⟩; go_big_quiet_on))
        refine wpQuiet_nil ?_
        rintro w5 ⟨⟨w8, k5⟩, h9⟩
        change w5 = w8 at h9
        subst h9
        clear hcc hne hcf
        repeat (first | go_values | go_skip | go_guarded | go_step | go_upon)
        go_ret
        exact ⟨rfl, HK6.out.trans k5⟩
      | true =>
        rw [q1] at AN
        by_cases h0 : 0 < k
        · obtain ⟨j', hj'⟩ : ∃ j', k = j' + 1 := ⟨k - 1, by omega⟩
          obtain ⟨a, hq⟩ : ∃ r, l[j']? = some r := ⟨_, List.getElem?_eq_getElem (by omega)⟩
          obtain ⟨bb2, o2, cap2, e2, r0, r1, r2, _, _⟩ := asset_get HV6.out hq
          cases e2
          have HO : Hid (KeyOk (namesA l) k ↔ Op.bytesLess a.1.toList d0.toList = true) := key_next (namesA_get HP.out) q1 hj' (namesA_get hq)
          obtain ⟨g, ⟨g1, g2⟩, ⟨g3, g4⟩⟩ := a
          dsimp only at r0 r1 r2 HO
          have rl := World.block_lt_of_cell? _ _ r0
          have dj : decide (0 < k) = true := decide_eq_true h0
          have dk : decide ((0 : Int) < (k : Int)) = true := by simp; omega
          have ej : IntKind.i64.wrap ((k : Int) - 1) = (j' : Int) := by rw [IntWalk.i64_in _ (by omega)]; omega
          have y1' : (0 : Int) ≤ (j' : Int) := by omega
          have y2' : (j' : Int) < (l.length : Int) := by omega
          clear hj' hq r1 r2
          cases q3 : Op.bytesLess g.toList d0.toList with
          | false =>
            have hR := NJ.out (fun h => by have := HO.out.1 h.2.2; rw [q3] at this; cases this)
            subst hR
            clear HO
            repeat (first | go_values | go_skip | go_guarded | go_step | go_upon)
            refine wp_region_kept (by kernel_rfl) (by kernel_rfl) ?_
            have hne := kw_some W6
            have hcc := KW.cell_eq W6
            have hcf := fun (x : KW W6) (b o : Nat) (hb : b < W6.heap.size) => x.k.frozen_eq b o hb
            repeat (first | (go_big_quiet_step (first | (go_at_call 51; with_reducible exact kw_same (AN.out _)) | (go_at_call 55; with_reducible exact kw_call (A3.out _)))) | (go_big_quiet_want; go_big_quiet_op; refine ⟨_, fun _ => (by with_reducible rfl), ?_⟩; go_big_quiet_on))
            refine wpQuiet_nil ?_
            rintro w5 ⟨⟨w8, k5⟩, h9⟩
            change w5 = w8 at h9
            subst h9
            clear hcc hne hcf
            repeat (first | go_values | go_skip | go_guarded | go_step | go_upon)
            go_ret
            exact ⟨rfl, HK6.out.trans k5⟩
          | true =>
            have HKO : Hid (KeyOk (namesA l) k) := HO.out.2 q3
            clear HO
            cases q4 : decide (KeysP 10 t1) with
            | false =>
              have hR := NJ.out (fun h => by rw [decide_eq_true h.1] at q4; cases q4)
              subst hR
              rw [q4] at A3
              repeat (first | go_values | go_skip | go_guarded | go_step | go_upon)
              refine wp_region_kept (by kernel_rfl) (by kernel_rfl) ?_
              have hne := kw_some W6
              have hcc := KW.cell_eq W6
              have hcf := fun (x : KW W6) (b o : Nat) (hb : b < W6.heap.size) => x.k.frozen_eq b o hb
              repeat (first | (go_big_quiet_step (first | (go_at_call 51; with_reducible exact kw_same (AN.out _)) | (go_at_call 55; with_reducible exact kw_call (A3.out _)))) | (go_big_quiet_want; go_big_quiet_op; refine ⟨_, fun _ => (by with_reducible rfl), ?_⟩; go_big_quiet_on))
              refine wpQuiet_nil ?_
              rintro w5 ⟨⟨w8, k5⟩, h9⟩
              change w5 = w8 at h9
              subst h9
              clear hcc hne hcf
              repeat (first | go_values | go_skip | go_guarded | go_step | go_upon)
              go_ret
              exact ⟨rfl, HK6.out.trans k5⟩
            | true =>
              rw [q4] at A3
              by_cases h4 : t2.length ≤ 400
              · have dt : decide ((400 : Int) < (t2.length : Int)) = false := decide_eq_false (by omega)
                have HOK : Hid ((∀ d, l[k]? = some d → KeysP 10 d.2.1.2 ∧ d.2.2.2.length ≤ 400) ∧ KeyOk (namesA l) k) := ⟨fun d hd => by rw [HP.out] at hd; cases hd; exact ⟨of_decide_eq_true q4, h4⟩, HKO.out⟩
                clear h4
                repeat (first | go_values | go_skip | go_guarded | go_step | go_upon)
                refine wp_region_kept (by kernel_rfl) (by kernel_rfl) ?_
                have hne := kw_some W6
                have hcc := KW.cell_eq W6
                have hcf := fun (x : KW W6) (b o : Nat) (hb : b < W6.heap.size) => x.k.frozen_eq b o hb
                repeat (first | (go_big_quiet_step (first | (go_at_call 51; with_reducible exact kw_same (AN.out _)) | (go_at_call 55; with_reducible exact kw_call (A3.out _)))) | (go_big_quiet_want; go_big_quiet_op; refine ⟨_, fun _ => (by with_reducible rfl), ?_⟩; go_big_quiet_on))
                refine wpQuiet_nil ?_
                rintro w5 ⟨⟨w8, k5⟩, h9⟩
                change w5 = w8 at h9
                subst h9
                clear hcc hne hcf
                have LY := HL6.out.kept k5
                have x1 := LY.cell 1 rfl
                have yl := LY.lt
                clear LY
                repeat (first | go_values | go_skip | go_guarded | go_step | go_upon)
                have HK5 : Hid (Kept W6 w5) := k5
                clear x0 x2 xl k5 yl
                go_loopw [51] (fun i wn => ∃ q : Nat, q ≤ t1.length ∧ i = .int .i64 q ∧ Kept w5 wn) (fun i _ => t1.length - (intOf i).toNat)
                case atStart => exact ⟨0, by omega, rfl, But.refl _ _ _⟩
                case round =>
                  rename World => wn
                  obtain ⟨q, hq, rfl, hkn⟩ := hrel
                  have HN : Hid (Kept w5 wn) := hkn
                  clear hkn
                  have htl : t1.length ≤ 1048576 := HSZ.out.2.1
                  by_cases hltq : q < t1.length
                  · obtain ⟨n, hnn⟩ : ∃ n, t1[q]? = some n := ⟨_, List.getElem?_eq_getElem hltq⟩
                    obtain ⟨b3, o3, cap3, e3, y0⟩ := txt_get (HT6.out.kept (HK5.out.trans HN.out)) hnn
                    cases e3
                    have HNT : Hid (hasB (namesA l) n = false → R = false) := fun h => NO.out fun h' => by
                      have := has_iff.2 (need_there h' (List.mem_of_getElem? HP.out) (List.mem_of_getElem? hnn))
                      rw [h] at this
                      cases this
                    have AT : Hid (Calls Try.prog 56 #[.slice (some ⟨b, o, none⟩) l.length cap, .string n] wn fun e w' => (∃ r : Int, e = .returned (.int .i64 r) ∧ decide (r < 0) = !hasB (namesA l) n) ∧ Kept wn w') := sat21 l n _ wn (HVW.out.kept (HK6.out.trans (HK5.out.trans HN.out))) (by omega)
                    clear hnn
                    repeat (first | go_values | go_skip | go_guarded | go_step | go_upon)
                    go_at_call 56
                    refine AT.out.mono ?_
                    rintro e w9 ⟨⟨r, rfl, hr⟩, k9⟩
                    have HK9 : Hid (Kept wn w9) := k9
                    clear k9 y0
                    cases qh : hasB (namesA l) n with
                    | true =>
                      rw [qh] at hr
                      simp only [Bool.not_true] at hr
                      dsimp only
                      repeat (first | go_values | go_skip | go_guarded | go_step | go_upon)
                      exact ⟨⟨q + 1, hltq, by go_num, HN.out.trans HK9.out⟩, by simp [intOf]; omega⟩
                    | false =>
                      rw [qh] at hr
                      simp only [Bool.not_false] at hr
                      dsimp only
                      have hR := HNT.out qh
                      subst hR
                      repeat (first | go_values | go_skip | go_guarded | go_step | go_upon)
                      go_ret
                      exact ⟨rfl, HK6.out.trans (HK5.out.trans (HN.out.trans HK9.out))⟩
                  · have hqe : q = t1.length := by omega
                    subst hqe
                    repeat (first | go_values | go_skip | go_guarded | go_step | go_upon)
                    exact ⟨⟨k + 1, hlt, by go_num, all_more HB.out HOK.out, HK6.out.trans (HK5.out.trans HN.out)⟩, by simp [intOf]; omega⟩
              · have dt : decide ((400 : Int) < (t2.length : Int)) = true := decide_eq_true (by omega)
                have hR := NJ.out (fun h => h4 h.2.1)
                subst hR
                clear h4
                repeat (first | go_values | go_skip | go_guarded | go_step | go_upon)
                refine wp_region_kept (by kernel_rfl) (by kernel_rfl) ?_
                have hne := kw_some W6
                have hcc := KW.cell_eq W6
                have hcf := fun (x : KW W6) (b o : Nat) (hb : b < W6.heap.size) => x.k.frozen_eq b o hb
                repeat (first | (go_big_quiet_step (first | (go_at_call 51; with_reducible exact kw_same (AN.out _)) | (go_at_call 55; with_reducible exact kw_call (A3.out _)))) | (go_big_quiet_want; go_big_quiet_op; refine ⟨_, fun _ => (by with_reducible rfl), ?_⟩; go_big_quiet_on))
                refine wpQuiet_nil ?_
                rintro w5 ⟨⟨w8, k5⟩, h9⟩
                change w5 = w8 at h9
                subst h9
                clear hcc hne hcf
                repeat (first | go_values | go_skip | go_guarded | go_step | go_upon)
                go_ret
                exact ⟨rfl, HK6.out.trans k5⟩
        · have HKO : Hid (KeyOk (namesA l) k) := key_first (namesA_get HP.out) q1 h0
          have dj : decide (0 < k) = false := decide_eq_false h0
          have dk : decide ((0 : Int) < (k : Int)) = false := by simp; omega
          clear h0
          cases q4 : decide (KeysP 10 t1) with
          | false =>
            have hR := NJ.out (fun h => by rw [decide_eq_true h.1] at q4; cases q4)
            subst hR
            rw [q4] at A3
            repeat (first | go_values | go_skip | go_guarded | go_step | go_upon)
            refine wp_region_kept (by kernel_rfl) (by kernel_rfl) ?_
            have hne := kw_some W6
            have hcc := KW.cell_eq W6
            have hcf := fun (x : KW W6) (b o : Nat) (hb : b < W6.heap.size) => x.k.frozen_eq b o hb
            repeat (first | (go_big_quiet_step (first | (go_at_call 51; with_reducible exact kw_same (AN.out _)) | (go_at_call 55; with_reducible exact kw_call (A3.out _)))) | (go_big_quiet_want; go_big_quiet_op; refine ⟨_, fun _ => (by with_reducible rfl), ?_⟩; go_big_quiet_on))
            refine wpQuiet_nil ?_
            rintro w5 ⟨⟨w8, k5⟩, h9⟩
            change w5 = w8 at h9
            subst h9
            clear hcc hne hcf
            repeat (first | go_values | go_skip | go_guarded | go_step | go_upon)
            go_ret
            exact ⟨rfl, HK6.out.trans k5⟩
          | true =>
            rw [q4] at A3
            by_cases h4 : t2.length ≤ 400
            · have dt : decide ((400 : Int) < (t2.length : Int)) = false := decide_eq_false (by omega)
              have HOK : Hid ((∀ d, l[k]? = some d → KeysP 10 d.2.1.2 ∧ d.2.2.2.length ≤ 400) ∧ KeyOk (namesA l) k) := ⟨fun d hd => by rw [HP.out] at hd; cases hd; exact ⟨of_decide_eq_true q4, h4⟩, HKO.out⟩
              clear h4
              repeat (first | go_values | go_skip | go_guarded | go_step | go_upon)
              refine wp_region_kept (by kernel_rfl) (by kernel_rfl) ?_
              have hne := kw_some W6
              have hcc := KW.cell_eq W6
              have hcf := fun (x : KW W6) (b o : Nat) (hb : b < W6.heap.size) => x.k.frozen_eq b o hb
              repeat (first | (go_big_quiet_step (first | (go_at_call 51; with_reducible exact kw_same (AN.out _)) | (go_at_call 55; with_reducible exact kw_call (A3.out _)))) | (go_big_quiet_want; go_big_quiet_op; refine ⟨_, fun _ => (by with_reducible rfl), ?_⟩; go_big_quiet_on))
              refine wpQuiet_nil ?_
              rintro w5 ⟨⟨w8, k5⟩, h9⟩
              change w5 = w8 at h9
              subst h9
              clear hcc hne hcf
              have LY := HL6.out.kept k5
              have x1 := LY.cell 1 rfl
              have yl := LY.lt
              clear LY
              repeat (first | go_values | go_skip | go_guarded | go_step | go_upon)
              have HK5 : Hid (Kept W6 w5) := k5
              clear x0 x2 xl k5 yl
              go_loopw [51] (fun i wn => ∃ q : Nat, q ≤ t1.length ∧ i = .int .i64 q ∧ Kept w5 wn) (fun i _ => t1.length - (intOf i).toNat)
              case atStart => exact ⟨0, by omega, rfl, But.refl _ _ _⟩
              case round =>
                rename World => wn
                obtain ⟨q, hq, rfl, hkn⟩ := hrel
                have HN : Hid (Kept w5 wn) := hkn
                clear hkn
                have htl : t1.length ≤ 1048576 := HSZ.out.2.1
                by_cases hltq : q < t1.length
                · obtain ⟨n, hnn⟩ : ∃ n, t1[q]? = some n := ⟨_, List.getElem?_eq_getElem hltq⟩
                  obtain ⟨b3, o3, cap3, e3, y0⟩ := txt_get (HT6.out.kept (HK5.out.trans HN.out)) hnn
                  cases e3
                  have HNT : Hid (hasB (namesA l) n = false → R = false) := fun h => NO.out fun h' => by
                    have := has_iff.2 (need_there h' (List.mem_of_getElem? HP.out) (List.mem_of_getElem? hnn))
                    rw [h] at this
                    cases this
                  have AT : Hid (Calls Try.prog 56 #[.slice (some ⟨b, o, none⟩) l.length cap, .string n] wn fun e w' => (∃ r : Int, e = .returned (.int .i64 r) ∧ decide (r < 0) = !hasB (namesA l) n) ∧ Kept wn w') := sat21 l n _ wn (HVW.out.kept (HK6.out.trans (HK5.out.trans HN.out))) (by omega)
                  clear hnn
                  repeat (first | go_values | go_skip | go_guarded | go_step | go_upon)
                  go_at_call 56
                  refine AT.out.mono ?_
                  rintro e w9 ⟨⟨r, rfl, hr⟩, k9⟩
                  have HK9 : Hid (Kept wn w9) := k9
                  clear k9 y0
                  cases qh : hasB (namesA l) n with
                  | true =>
                    rw [qh] at hr
                    simp only [Bool.not_true] at hr
                    dsimp only
                    repeat (first | go_values | go_skip | go_guarded | go_step | go_upon)
                    exact ⟨⟨q + 1, hltq, by go_num, HN.out.trans HK9.out⟩, by simp [intOf]; omega⟩
                  | false =>
                    rw [qh] at hr
                    simp only [Bool.not_false] at hr
                    dsimp only
                    have hR := HNT.out qh
                    subst hR
                    repeat (first | go_values | go_skip | go_guarded | go_step | go_upon)
                    go_ret
                    exact ⟨rfl, HK6.out.trans (HK5.out.trans (HN.out.trans HK9.out))⟩
                · have hqe : q = t1.length := by omega
                  subst hqe
                  repeat (first | go_values | go_skip | go_guarded | go_step | go_upon)
                  exact ⟨⟨k + 1, hlt, by go_num, all_more HB.out HOK.out, HK6.out.trans (HK5.out.trans HN.out)⟩, by simp [intOf]; omega⟩
            · have dt : decide ((400 : Int) < (t2.length : Int)) = true := decide_eq_true (by omega)
              have hR := NJ.out (fun h => h4 h.2.1)
              subst hR
              clear h4
              repeat (first | go_values | go_skip | go_guarded | go_step | go_upon)
              refine wp_region_kept (by kernel_rfl) (by kernel_rfl) ?_
              have hne := kw_some W6
              have hcc := KW.cell_eq W6
              have hcf := fun (x : KW W6) (b o : Nat) (hb : b < W6.heap.size) => x.k.frozen_eq b o hb
              repeat (first | (go_big_quiet_step (first | (go_at_call 51; with_reducible exact kw_same (AN.out _)) | (go_at_call 55; with_reducible exact kw_call (A3.out _)))) | (go_big_quiet_want; go_big_quiet_op; refine ⟨_, fun _ => (by with_reducible rfl), ?_⟩; go_big_quiet_on))
              refine wpQuiet_nil ?_
              rintro w5 ⟨⟨w8, k5⟩, h9⟩
              change w5 = w8 at h9
              subst h9
              clear hcc hne hcf
              repeat (first | go_values | go_skip | go_guarded | go_step | go_upon)
              go_ret
              exact ⟨rfl, HK6.out.trans k5⟩
    · have hke : k = l.length := by omega
      subst hke
      have hE : EachP l := ⟨fun d hd => by obtain ⟨j, hj⟩ := List.mem_iff_getElem?.1 hd; exact (HB.out j (List.getElem?_eq_some_iff.1 hj).1).1 d hj, by rw [namesA_len]; omega, fun j hj => (HB.out j (by rw [namesA_len] at hj; exact hj)).2⟩
      have hR := RES.out hE
      have AO : Hid (Calls Try.prog 39 #[.slice ao l.length cap] wo fun e w' => ∃ v', e = .returned v' ∧ TxtO w' wo.heap.size w'.heap.size v' (ordL l) ∧ Kept wo w') := sord l _ wo (HVW.out.kept hkp) (by omega) (fun d hd => (HS.out d hd).2.1)
      have HRR : Hid (decide ((ordL l).length = l.length) = R) := hR
      have HK : Hid (Kept w wo) := hkp
      clear hE hR hkp
      generalize ordL l = OL at *
      repeat (first | go_values | go_skip | go_guarded | go_step | go_upon)
      go_at_call 39
      refine AO.out.mono ?_
      rintro e w9 ⟨v9, rfl, o9, k9⟩
      obtain ⟨a9, c9, hf⟩ := o9.form
      subst hf
      dsimp only
      repeat (first | go_values | go_skip | go_guarded | go_step | go_upon)
      go_ret
      refine ⟨ret_boolG ?_, HK.out.trans k9⟩
      rw [← HRR.out]
      first | rfl | (rw [Bool.eq_iff_iff]; simp; omega) | simp

end Go.Proofs.Ytmoaihhllfkmiaa
