/-
  Binds as they must be, in the specification.
-/
import Derived.Test.YthkfpbknfjapaaaBindQ17
import Derived.Test.YthkfpbknfjapaaaSame17
import Derived.Test.YthkfpbknfjapaaaChord17
import Derived.WalkLawsBesides
namespace Go.Proofs.Ythkfpbknfjapaaa
open Go.ChangeShapes Go.WideShapes Go.ChangeAt Go.RowKit

set_option maxRecDepth 100000
set_option linter.unusedVariables false

set_option maxHeartbeats 8000000 in
theorem sgbindsW (l : List BindD) (ao : Option Addr) (cap : Nat) (w : World) (hv : BindsAt w (.slice ao l.length cap) l) (hcap : l.length ≤ cap ∧ cap ≤ 9223372036854775807) (hln : l.length ≤ 1048576) (hcs0 : ∀ d ∈ l, d.1.size ≤ 1048576 ∧ d.2.length ≤ 1048576) :
    Calls Try.prog 14 #[.slice ao l.length cap] w fun e w' => e = .returned (.bool (dec (BindsP l))) ∧ Kept w w' := by
  have hcs : Hid (∀ d ∈ l, d.1.size ≤ 1048576 ∧ d.2.length ≤ 1048576) := hcs0
  clear hcs0
  have NO : Hid (¬ BindsP l → dec (BindsP l) = false) := dec_no
  have YES : Hid (BindsP l → dec (BindsP l) = true) := dec_yes
  generalize dec (BindsP l) = R at *
  by_cases h2 : 20 < l.length
  · rw [NO.out fun h => by have := h.1; omega]
    go_enter Try.func14, Try.ntmps14
    go_wp2
    go_ret
    exact ⟨rfl, But.refl _ _ _⟩
  go_enter Try.func14, Try.ntmps14
  go_wp2
  go_loopw [12] (fun i wr => ∃ (k : Nat), k ≤ l.length ∧ i = .int .i64 k ∧ Hid (∀ j, j < k → BindOk l j) ∧ Kept w wr) (fun i _ => l.length - (intOf i).toNat)
  case atStart => exact ⟨0, by omega, rfl, fun j hj => by omega, But.refl _ _ _⟩
  case round =>
    obtain ⟨j, hk, rfl, HB, hkp⟩ := hrel
    by_cases hlt : j < l.length
    · obtain ⟨d, hd⟩ : ∃ p, l[j]? = some p := ⟨_, List.getElem?_eq_getElem hlt⟩
      have hv1 := hv.kept hkp
      obtain ⟨b, o, cap', s, ee, c0, c1, hka⟩ := hv1.get hd
      cases ee
      have hsz := hcs.out d (List.mem_of_getElem? hd)
      have HP : Hid (l[j]? = some d) := hd
      have HK : Hid (Kept w wr) := hkp
      obtain ⟨d0, d1⟩ := d
      dsimp only at c0 c1 hka hsz
      obtain ⟨a3, p3, hsl⟩ := row_nil hka
      subst hsl
      have NJ : Hid (¬ BindOk l j → R = false) := fun h => NO.out (fun h' => h (h'.2 j hlt))
      have hgw : b < wr.heap.size := World.block_lt_of_cell? _ _ c0
      have z0 : (0 : Int) ≤ (j : Int) := by omega
      have z1 : (j : Int) ≤ (cap : Int) := by omega
      have z2 : j ≤ cap := by omega
      have HN : Hid (NumAt wr (.slice a3 d1.length p3) d1) := hka
      have HV : Hid (BindsAt wr (.slice (some ⟨b, o, none⟩) l.length cap) l) := hv1
      have arm1 : ∀ (q : Bool), nameB d0 = q → ∀ W, Calls Try.prog 55 #[.string d0] W fun e w' => e = .returned (.bool q) ∧ w' = W := fun q hq W => by rw [← hq]; exact sname d0 W hsz.1
      have armC : ∀ (q : Bool), dec (ChordP d1) = q → ∀ W, Kept wr W → Calls Try.prog 56 #[.slice a3 d1.length p3] W fun e w' => e = .returned (.bool q) ∧ Kept W w' := fun q hq W k => by rw [← hq]; exact schord d1 _ W (HN.out.kept k) hsz.2
      clear hd hka hkp hv hv1
      cases q1 : nameB d0 with
      | false =>
        have AN : Hid (∀ W, Calls Try.prog 55 #[.string d0] W fun e w' => e = .returned (.bool false) ∧ w' = W) := arm1 _ q1
        have hR := NJ.out (fun h => by have := (h _ HP.out).1; dsimp only at this; rw [q1] at this; exact absurd this (by simp))
        subst hR
        clear arm1 armC
        repeat (first | go_values | go_skip | go_guarded | go_step | go_upon)
        refine wp_region_kept (by kernel_rfl) (by kernel_rfl) ?_
        have hcc := @KW.cell_eq
        repeat (go_big_quiet_step (first | (go_at_call 55; with_reducible exact kw_same (AN.out _))))
        refine wpQuiet_nil ?_
        rintro w5 ⟨⟨w8, k5⟩, h9⟩
        change w5 = w8 at h9
        subst h9
        clear hcc
        repeat (first | go_values | go_skip | go_guarded | go_step | go_upon)
        go_ret
        exact ⟨rfl, (HK.out.alloc _).trans k5⟩
      | true =>
        have AN : Hid (∀ W, Calls Try.prog 55 #[.string d0] W fun e w' => e = .returned (.bool true) ∧ w' = W) := arm1 _ q1
        rcases (Classical.em (ChordP d1)).symm with q2 | q2
        · have AC : Hid (∀ W, Kept wr W → Calls Try.prog 56 #[.slice a3 d1.length p3] W fun e w' => e = .returned (.bool false) ∧ Kept W w') := armC _ (dec_no q2)
          have hR := NJ.out (fun h => q2 (h _ HP.out).2.1)
          subst hR
          clear arm1 armC
          repeat (first | go_values | go_skip | go_guarded | go_step | go_upon)
          refine wp_region_kept (by kernel_rfl) (by kernel_rfl) ?_
          have hcc := @KW.cell_eq
          repeat (go_big_quiet_step (first | (go_at_call 55; with_reducible exact kw_same (AN.out _)) | (go_at_call 56; with_reducible exact kw_call (AC.out _ (But.trans ((But.refl _ _ _).alloc _) (KW.k _))))))
          refine wpQuiet_nil ?_
          rintro w5 ⟨⟨w8, k5⟩, h9⟩
          change w5 = w8 at h9
          subst h9
          clear hcc
          repeat (first | go_values | go_skip | go_guarded | go_step | go_upon)
          go_ret
          exact ⟨rfl, (HK.out.alloc _).trans k5⟩
        have AC : Hid (∀ W, Kept wr W → Calls Try.prog 56 #[.slice a3 d1.length p3] W fun e w' => e = .returned (.bool true) ∧ Kept W w') := armC _ (dec_yes q2)
        clear arm1 armC
        by_cases h0 : 0 < j
        · obtain ⟨j', hj'⟩ : ∃ j', j = j' + 1 := ⟨j - 1, by omega⟩
          obtain ⟨a, hq⟩ : ∃ b, l[j']? = some b := ⟨_, List.getElem?_eq_getElem (by omega)⟩
          obtain ⟨bb2, o2, cap2, sv2, e2, r0, r1, _⟩ := HV.out.get hq
          cases e2
          have HO : Hid (BindOk l j → Op.bytesLess a.1.toList d0.toList = true) := fun h => (h _ HP.out).2.2.1 a (by omega) (by rw [hj']; simpa using hq)
          have HO2 : Hid (Op.bytesLess a.1.toList d0.toList = true → hasC (l.take j) d1 = false → BindOk l j) := fun h h4 => (bind_next HP.out q1 q2 h4 hj' hq).2 h
          obtain ⟨g, gk⟩ := a
          dsimp only at r0 r1
          have dj : decide (0 < j) = true := decide_eq_true h0
          have ej : IntKind.i64.wrap ((j : Int) - 1) = (j' : Int) := by rw [IntWalk.i64_in _ (by omega)]; omega
          have y1' : (0 : Int) ≤ (j' : Int) := by omega
          have y2' : (j' : Int) < (l.length : Int) := by omega
          clear hj' hq r1
          cases q3 : Op.bytesLess g.toList d0.toList with
          | false =>
            have hR := NJ.out (fun h => by have := HO.out h; dsimp only at this; rw [q3] at this; exact absurd this (by simp))
            subst hR
            repeat (first | go_values | go_skip | go_guarded | go_step | go_upon)
            refine wp_region_kept (by kernel_rfl) (by kernel_rfl) ?_
            have hcc := @KW.cell_eq
            repeat (go_big_quiet_step (first | (go_at_call 55; with_reducible exact kw_same (AN.out _)) | (go_at_call 56; with_reducible exact kw_call (AC.out _ (But.trans ((But.refl _ _ _).alloc _) (KW.k _))))))
            refine wpQuiet_nil ?_
            rintro w5 ⟨⟨w8, k5⟩, h9⟩
            change w5 = w8 at h9
            subst h9
            clear hcc
            repeat (first | go_values | go_skip | go_guarded | go_step | go_upon)
            go_ret
            exact ⟨rfl, (HK.out.alloc _).trans k5⟩
          | true =>
            have HOK : Hid (hasC (l.take j) d1 = false → BindOk l j) := HO2.out q3
            clear HO HO2
            repeat (first | go_values | go_skip | go_guarded | go_step | go_upon)
            refine wp_region_kept (by kernel_rfl) (by kernel_rfl) ?_
            have hcc := @KW.cell_eq
            repeat (go_big_quiet_step (first | (go_at_call 55; with_reducible exact kw_same (AN.out _)) | (go_at_call 56; with_reducible exact kw_call (AC.out _ (But.trans ((But.refl _ _ _).alloc _) (KW.k _))))))
            refine wpQuiet_nil ?_
            rintro w5 ⟨⟨w8, k5⟩, h9⟩
            change w5 = w8 at h9
            subst h9
            clear hcc
            repeat (first | go_values | go_skip | go_guarded | go_step | go_upon)
            try clear dj
            have hK5 : Kept wr w5 := ((But.refl _ _ _).alloc _).trans k5
            have L5 := (Loc.new wr [.string d0, .slice a3 d1.length p3] 85).kept k5
            have HK5 : Hid (Kept w w5) := HK.out.trans hK5
            have HV5 : Hid (BindsAt w5 (.slice (some ⟨b, o, none⟩) l.length cap) l) := HV.out.kept hK5
            have HN5 : Hid (NumAt w5 (.slice a3 d1.length p3) d1) := HN.out.kept hK5
            have HL5 : Hid (Loc w5 wr.heap.size [.string d0, .slice a3 d1.length p3]) := L5
            clear AN AC L5 k5 c0 c1 HN hK5 hgw HK HV
            go_loopw [46] (fun i wz => ∃ (k : Nat), k ≤ j ∧ i = .int .i64 k ∧ Hid (∀ i d, i < k → l[i]? = some d → (fun d : BindD => decide (d.2 = d1)) d = false) ∧ Kept w5 wz) (fun i _ => j - (intOf i).toNat)
            case atStart => exact ⟨0, by omega, rfl, fun j d hj => by omega, But.refl _ _ _⟩
            case round =>
              rename World => wz
              obtain ⟨k, hk6, rfl, HB6, hkp6⟩ := hrel
              have f1 := (HL5.out.kept hkp6).cell 1 rfl
              have f1l := (HL5.out.kept hkp6).lt
              by_cases hlt6 : k < j
              · obtain ⟨y, hy⟩ : ∃ p, l[k]? = some p := ⟨_, List.getElem?_eq_getElem (by omega)⟩
                obtain ⟨bz, oz, capz, sz, ez, x0, x1, hkz⟩ := (HV5.out.kept hkp6).get hy
                cases ez
                have hsy := hcs.out y (List.mem_of_getElem? hy)
                have HY : Hid (l[k]? = some y) := hy
                have HK6 : Hid (Kept w5 wz) := hkp6
                obtain ⟨y0, y1⟩ := y
                dsimp only at x0 x1 hkz hsy
                obtain ⟨a7, p7, hsl⟩ := row_nil hkz
                subst hsl
                have w1 : (0 : Int) ≤ (k : Int) := by omega
                have w2 : (k : Int) < (j : Int) := by omega
                have CC : Hid (∀ W, Kept wz W → Calls Try.prog 57 #[.slice a7 y1.length p7, .slice a3 d1.length p3] W fun e w' => e = .returned (.bool (decide (y1 = d1))) ∧ Kept W w') := fun W k => ssame y1 d1 _ _ W (NumAt.kept hkz k) (HN5.out.kept (HK6.out.trans k)) hsy.2 hsz.2
                clear hy hkz hkp6
                cases q6 : decide (y1 = d1) with
                | true =>
                  rw [q6] at CC
                  have hR := NJ.out (fun h => by have := (h _ HP.out).2.2.2; dsimp only at this; unfold hasC at this; rw [any_at hlt6 HY.out q6] at this; exact absurd this (by simp))
                  subst hR
                  repeat (first | (go_at_call 57; refine (CC.out _ ((But.refl _ _ _).alloc _)).mono ?_; rintro e w7 ⟨rfl, k7⟩; dsimp only) | go_values | go_skip | go_guarded | go_step | go_upon)
                  go_ret
                  exact ⟨rfl, HK5.out.trans ((HK6.out.alloc _).trans k7)⟩
                | false =>
                  rw [q6] at CC
                  repeat (first | (go_at_call 57; refine (CC.out _ ((But.refl _ _ _).alloc _)).mono ?_; rintro e w7 ⟨rfl, k7⟩; dsimp only) | go_values | go_skip | go_guarded | go_step | go_upon)
                  exact ⟨⟨k + 1, hlt6, by go_num, idx_more HB6.out HY.out q6, (HK6.out.alloc _).trans k7⟩, by simp [intOf]; omega⟩
              · have hke : k = j := by omega
                have HB7 : Hid (hasC (l.take j) d1 = false) := by rw [← hke]; exact any_take HB6.out
                have HKz : Hid (Kept w wz) := HK5.out.trans hkp6
                have HI : Hid (∀ i, i < j + 1 → BindOk l i) := all_more HB.out (HOK.out HB7.out)
                subst hke
                clear hkp6 f1 f1l
                go_wp2
                exact ⟨⟨k + 1, hlt, by go_num, HI.out, HKz.out⟩, by simp [intOf]; omega⟩
        · have dj : decide (0 < j) = false := decide_eq_false h0
          have HOK : Hid (hasC (l.take j) d1 = false → BindOk l j) := fun h4 => bind_first HP.out q1 q2 h4 h0
          clear h0
          repeat (first | go_values | go_skip | go_guarded | go_step | go_upon)
          refine wp_region_kept (by kernel_rfl) (by kernel_rfl) ?_
          have hcc := @KW.cell_eq
          repeat (go_big_quiet_step (first | (go_at_call 55; with_reducible exact kw_same (AN.out _)) | (go_at_call 56; with_reducible exact kw_call (AC.out _ (But.trans ((But.refl _ _ _).alloc _) (KW.k _))))))
          refine wpQuiet_nil ?_
          rintro w5 ⟨⟨w8, k5⟩, h9⟩
          change w5 = w8 at h9
          subst h9
          clear hcc
          repeat (first | go_values | go_skip | go_guarded | go_step | go_upon)
          try clear dj
          have hK5 : Kept wr w5 := ((But.refl _ _ _).alloc _).trans k5
          have L5 := (Loc.new wr [.string d0, .slice a3 d1.length p3] 85).kept k5
          have HK5 : Hid (Kept w w5) := HK.out.trans hK5
          have HV5 : Hid (BindsAt w5 (.slice (some ⟨b, o, none⟩) l.length cap) l) := HV.out.kept hK5
          have HN5 : Hid (NumAt w5 (.slice a3 d1.length p3) d1) := HN.out.kept hK5
          have HL5 : Hid (Loc w5 wr.heap.size [.string d0, .slice a3 d1.length p3]) := L5
          clear AN AC L5 k5 c0 c1 HN hK5 hgw HK HV
          go_loopw [46] (fun i wz => ∃ (k : Nat), k ≤ j ∧ i = .int .i64 k ∧ Hid (∀ i d, i < k → l[i]? = some d → (fun d : BindD => decide (d.2 = d1)) d = false) ∧ Kept w5 wz) (fun i _ => j - (intOf i).toNat)
          case atStart => exact ⟨0, by omega, rfl, fun j d hj => by omega, But.refl _ _ _⟩
          case round =>
            rename World => wz
            obtain ⟨k, hk6, rfl, HB6, hkp6⟩ := hrel
            have f1 := (HL5.out.kept hkp6).cell 1 rfl
            have f1l := (HL5.out.kept hkp6).lt
            by_cases hlt6 : k < j
            · obtain ⟨y, hy⟩ : ∃ p, l[k]? = some p := ⟨_, List.getElem?_eq_getElem (by omega)⟩
              obtain ⟨bz, oz, capz, sz, ez, x0, x1, hkz⟩ := (HV5.out.kept hkp6).get hy
              cases ez
              have hsy := hcs.out y (List.mem_of_getElem? hy)
              have HY : Hid (l[k]? = some y) := hy
              have HK6 : Hid (Kept w5 wz) := hkp6
              obtain ⟨y0, y1⟩ := y
              dsimp only at x0 x1 hkz hsy
              obtain ⟨a7, p7, hsl⟩ := row_nil hkz
              subst hsl
              have w1 : (0 : Int) ≤ (k : Int) := by omega
              have w2 : (k : Int) < (j : Int) := by omega
              have CC : Hid (∀ W, Kept wz W → Calls Try.prog 57 #[.slice a7 y1.length p7, .slice a3 d1.length p3] W fun e w' => e = .returned (.bool (decide (y1 = d1))) ∧ Kept W w') := fun W k => ssame y1 d1 _ _ W (NumAt.kept hkz k) (HN5.out.kept (HK6.out.trans k)) hsy.2 hsz.2
              clear hy hkz hkp6
              cases q6 : decide (y1 = d1) with
              | true =>
                rw [q6] at CC
                have hR := NJ.out (fun h => by have := (h _ HP.out).2.2.2; dsimp only at this; unfold hasC at this; rw [any_at hlt6 HY.out q6] at this; exact absurd this (by simp))
                subst hR
                repeat (first | (go_at_call 57; refine (CC.out _ ((But.refl _ _ _).alloc _)).mono ?_; rintro e w7 ⟨rfl, k7⟩; dsimp only) | go_values | go_skip | go_guarded | go_step | go_upon)
                go_ret
                exact ⟨rfl, HK5.out.trans ((HK6.out.alloc _).trans k7)⟩
              | false =>
                rw [q6] at CC
                repeat (first | (go_at_call 57; refine (CC.out _ ((But.refl _ _ _).alloc _)).mono ?_; rintro e w7 ⟨rfl, k7⟩; dsimp only) | go_values | go_skip | go_guarded | go_step | go_upon)
                exact ⟨⟨k + 1, hlt6, by go_num, idx_more HB6.out HY.out q6, (HK6.out.alloc _).trans k7⟩, by simp [intOf]; omega⟩
            · have hke : k = j := by omega
              have HB7 : Hid (hasC (l.take j) d1 = false) := by rw [← hke]; exact any_take HB6.out
              have HKz : Hid (Kept w wz) := HK5.out.trans hkp6
              have HI : Hid (∀ i, i < j + 1 → BindOk l i) := all_more HB.out (HOK.out HB7.out)
              subst hke
              clear hkp6 f1 f1l
              go_wp2
              exact ⟨⟨k + 1, hlt, by go_num, HI.out, HKz.out⟩, by simp [intOf]; omega⟩
    · have hke : j = l.length := by omega
      subst hke
      have hR := YES.out ⟨by omega, HB.out⟩
      subst hR
      go_wp2
      go_ret
      exact ⟨rfl, hkp⟩
theorem sgbinds (l : List BindD) (ao : Option Addr) (cap : Nat) (w : World) (hv : BindsAt w (.slice ao l.length cap) l) (hcap : l.length ≤ cap ∧ cap ≤ 9223372036854775807) (hn : bindsCost l ≤ 1048576) :
    Calls Try.prog 14 #[.slice ao l.length cap] w fun e w' => e = .returned (.bool (dec (BindsP l))) ∧ Kept w w' := sgbindsW l ao cap w hv hcap (binds_each hn).1 (binds_each hn).2

end Go.Proofs.Ythkfpbknfjapaaa
