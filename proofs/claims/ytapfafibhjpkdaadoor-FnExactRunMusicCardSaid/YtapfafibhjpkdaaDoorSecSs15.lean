/-
  Good sections in the specification.
-/
import Derived.Test.YtapfafibhjpkdaaDoorSecG15
import Derived.Test.YtapfafibhjpkdaaDoorQuiet
namespace Go.Proofs.YtapfafibhjpkdaaDoor
open Go.ChangeShapes Go.WideShapes Go.ChangeAt Go.RowKit

set_option maxRecDepth 100000
set_option linter.unusedVariables false

set_option maxHeartbeats 8000000 in
theorem ssecs (l : List SectionD) (ao : Option Addr) (cap : Nat) (w : World) (hv : SecsAt w (.slice ao l.length cap) l) (hcap : l.length ≤ cap ∧ cap ≤ 9223372036854775807) (hn : secsCost l ≤ 1048576) :
    Calls Tryd.prog 31 #[.slice ao l.length cap] w fun e w' => e = .returned (.bool (dec (SecsP l))) ∧ Kept w w' := by
  have hcs : Hid (∀ d ∈ l, d.1.size ≤ 1048576 ∧ d.2.2.1.length ≤ 1048576) := fun d hd => by
    have := secs_one hd
    unfold secsOne at this
    omega
  have hln : l.length ≤ 1048576 := by unfold secsCost at hn; omega
  clear hn
  have NO : Hid (¬ SecsP l → dec (SecsP l) = false) := dec_no
  have YES : Hid (SecsP l → dec (SecsP l) = true) := dec_yes
  generalize dec (SecsP l) = R at *
  by_cases h1 : l.length < 1
  · rw [NO.out fun h => by have := h.1; omega]
    go_enter Tryd.func31, Tryd.ntmps31
    go_wp2
    go_ret
    exact ⟨rfl, But.refl _ _ _⟩
  by_cases h2 : 64 < l.length
  · rw [NO.out fun h => by have := h.1; omega]
    go_enter Tryd.func31, Tryd.ntmps31
    go_wp2
    go_ret
    exact ⟨rfl, But.refl _ _ _⟩
  go_enter Tryd.func31, Tryd.ntmps31
  go_wp2
  go_loopw [17] (fun i wr => ∃ (k : Nat), k ≤ l.length ∧ i = .int .i64 k ∧ Hid (∀ j, j < k → SecOk l j) ∧ Kept w wr) (fun i _ => l.length - (intOf i).toNat)
  case atStart => exact ⟨0, by omega, rfl, fun j hj => by omega, But.refl _ _ _⟩
  case round =>
    obtain ⟨j, hk, rfl, HB, hkp⟩ := hrel
    by_cases hlt : j < l.length
    · obtain ⟨d, hd⟩ : ∃ p, l[j]? = some p := ⟨_, List.getElem?_eq_getElem hlt⟩
      have hv1 := hv.kept hkp
      obtain ⟨b, o, cap', s, ee, c0, c1, c2, c3, hka⟩ := hv1.get hd
      cases ee
      have hsz := hcs.out d (List.mem_of_getElem? hd)
      have HP : Hid (l[j]? = some d) := hd
      have HK : Hid (Kept w wr) := hkp
      obtain ⟨d0, d1, d2, d3⟩ := d
      dsimp only at c0 c1 c2 c3 hka hsz
      obtain ⟨a3, p3, hsl⟩ := row_nil hka
      subst hsl
      obtain ⟨X, hX⟩ : ∃ X, ixI (fstS (l.take j) d0) = X := ⟨_, rfl⟩
      obtain ⟨Y, hY⟩ : ∃ Y, ixI (fstS l d3) = Y := ⟨_, rfl⟩
      have eX : decide (0 ≤ X) = hasB (l.take j) d0 := by rw [← hX]; exact ix_pos _
      have eY : decide (Y < 0) = !hasB l d3 := by rw [← hY]; exact ix_neg _
      have AT : Hid (∀ W, Kept wr W → Calls Tryd.prog 19 #[.slice (some ⟨b, o, none⟩) j cap, .string d0] W fun e w' => e = .returned (.int .i64 X) ∧ Kept W w') := fun W k => by rw [← hX]; exact ssec (l.take j) d0 _ W ((hv1.kept k).take j (by omega)) (by rw [List.length_take]; omega)
      have AA : Hid (∀ W, Kept wr W → Calls Tryd.prog 19 #[.slice (some ⟨b, o, none⟩) l.length cap, .string d3] W fun e w' => e = .returned (.int .i64 Y) ∧ Kept W w') := fun W k => by rw [← hY]; exact ssec l d3 _ W (hv1.kept k) (by omega)
      have arm1 : ∀ (q : Bool), nameB d0 = q → ∀ W, Calls Tryd.prog 39 #[.string d0] W fun e w' => e = .returned (.bool q) ∧ w' = W := fun q hq W => by rw [← hq]; exact sname d0 W hsz.1
      have NJ : Hid (¬ SecOk l j → R = false) := fun h => NO.out (fun h' => h (h'.2 j hlt))
      have hgw : b < wr.heap.size := World.block_lt_of_cell? _ _ c0
      have z0 : (0 : Int) ≤ (j : Int) := by omega
      have z1 : (j : Int) ≤ (cap : Int) := by omega
      have z2 : j ≤ cap := by omega
      have HN : Hid (NumAt wr (.slice a3 d2.length p3) d2) := hka
      clear hd hka hkp hv hv1 hX hY
      cases q1 : nameB d0 with
      | false =>
        have AN : Hid (∀ W, Calls Tryd.prog 39 #[.string d0] W fun e w' => e = .returned (.bool false) ∧ w' = W) := arm1 _ q1
        clear arm1
        have hR := NJ.out (fun h => by have := (h _ HP.out).1.1; dsimp only at this; rw [q1] at this; exact absurd this (by simp))
        subst hR
        repeat (first | go_values | go_skip | go_guarded | go_step | go_upon)
        refine wp_region_kept (by kernel_rfl) (by kernel_rfl) ?_
        have hcc := @KW.cell_eq
        repeat (go_big_quiet_step (first | (go_at_call 39; exact kw_same (AN.out _))))
        refine wpQuiet_nil ?_
        rintro w5 ⟨⟨w8, k5⟩, h9⟩
        change w5 = w8 at h9
        subst h9
        clear hcc
        repeat (first | go_values | go_skip | go_guarded | go_step | go_upon)
        go_ret
        exact ⟨rfl, (HK.out.alloc _).trans k5⟩
      | true =>
        have AN : Hid (∀ W, Calls Tryd.prog 39 #[.string d0] W fun e w' => e = .returned (.bool true) ∧ w' = W) := arm1 _ q1
        clear arm1
        cases q2 : hasB (l.take j) d0 with
        | true =>
          rw [q2] at eX
          have hR := NJ.out (fun h => by have := (h _ HP.out).2.1; dsimp only at this; rw [q2] at this; exact absurd this (by simp))
          subst hR
          repeat (first | go_values | go_skip | go_guarded | go_step | go_upon)
          refine wp_region_kept (by kernel_rfl) (by kernel_rfl) ?_
          have hcc := @KW.cell_eq
          repeat (go_big_quiet_step (first | (go_at_call 39; exact kw_same (AN.out _)) | (go_at_call 19; with_reducible exact kw_call (AT.out _ (But.trans ((But.refl _ _ _).alloc _) (KW.k _))))))
          refine wpQuiet_nil ?_
          rintro w5 ⟨⟨w8, k5⟩, h9⟩
          change w5 = w8 at h9
          subst h9
          clear hcc
          repeat (first | go_values | go_skip | go_guarded | go_step | go_upon)
          go_ret
          exact ⟨rfl, (HK.out.alloc _).trans k5⟩
        | false =>
          rw [q2] at eX
          rcases (Decidable.em (1 ≤ d1 ∧ d1 ≤ 64)).symm with h3 | h3
          · have di : decide (1 ≤ d1 ∧ d1 ≤ 64) = false := decide_eq_false h3
            have hR := NJ.out (fun h => h3 (h _ HP.out).1.2.1)
            subst hR
            repeat (first | go_values | go_skip | go_guarded | go_step | go_upon)
            refine wp_region_kept (by kernel_rfl) (by kernel_rfl) ?_
            have hcc := @KW.cell_eq
            repeat (go_big_quiet_step (first | (go_at_call 39; exact kw_same (AN.out _)) | (go_at_call 19; with_reducible exact kw_call (AT.out _ (But.trans ((But.refl _ _ _).alloc _) (KW.k _)))) | (go_at_call 18; exact kw_same (calls_bool di (sInG _ _ _ _)))))
            refine wpQuiet_nil ?_
            rintro w5 ⟨⟨w8, k5⟩, h9⟩
            change w5 = w8 at h9
            subst h9
            clear hcc
            repeat (first | go_values | go_skip | go_guarded | go_step | go_upon)
            go_ret
            exact ⟨rfl, (HK.out.alloc _).trans k5⟩
          have di : decide (1 ≤ d1 ∧ d1 ≤ 64) = true := decide_eq_true h3
          cases q3 : hasB l d3 with
          | false =>
            rw [q3] at eY
            simp only [Bool.not_false] at eY
            have hR := NJ.out (fun h => by have := (h _ HP.out).2.2; dsimp only at this; rw [q3] at this; exact absurd this (by simp))
            subst hR
            repeat (first | go_values | go_skip | go_guarded | go_step | go_upon)
            refine wp_region_kept (by kernel_rfl) (by kernel_rfl) ?_
            have hcc := @KW.cell_eq
            repeat (go_big_quiet_step (first | (go_at_call 39; exact kw_same (AN.out _)) | (go_at_call 19; with_reducible exact kw_call (AT.out _ (But.trans ((But.refl _ _ _).alloc _) (KW.k _)))) | (go_at_call 18; exact kw_same (calls_bool di (sInG _ _ _ _))) | (go_at_call 19; with_reducible exact kw_call (AA.out _ (But.trans ((But.refl _ _ _).alloc _) (KW.k _))))))
            refine wpQuiet_nil ?_
            rintro w5 ⟨⟨w8, k5⟩, h9⟩
            change w5 = w8 at h9
            subst h9
            clear hcc
            repeat (first | go_values | go_skip | go_guarded | go_step | go_upon)
            go_ret
            exact ⟨rfl, (HK.out.alloc _).trans k5⟩
          | true =>
            rw [q3] at eY
            simp only [Bool.not_true] at eY
            have NR : Hid (¬ RiseP d1 d2 → R = false) := fun h => NJ.out (fun h' => h (h' _ HP.out).1.2.2)
            have YR : Hid (RiseP d1 d2 → ∀ i, i < j + 1 → SecOk l i) := fun h => all_more HB.out (fun d hd => by rw [HP.out] at hd; cases hd; exact ⟨⟨q1, h3, h⟩, q2, q3⟩)
            repeat (first | go_values | go_skip | go_guarded | go_step | go_upon)
            refine wp_region_kept (by kernel_rfl) (by kernel_rfl) ?_
            have hcc := @KW.cell_eq
            repeat (go_big_quiet_step (first | (go_at_call 39; exact kw_same (AN.out _)) | (go_at_call 19; with_reducible exact kw_call (AT.out _ (But.trans ((But.refl _ _ _).alloc _) (KW.k _)))) | (go_at_call 18; exact kw_same (calls_bool di (sInG _ _ _ _))) | (go_at_call 19; with_reducible exact kw_call (AA.out _ (But.trans ((But.refl _ _ _).alloc _) (KW.k _))))))
            refine wpQuiet_nil ?_
            rintro w5 ⟨⟨w8, k5⟩, h9⟩
            change w5 = w8 at h9
            subst h9
            clear hcc
            have L5 := (Loc.new wr [.string d0, .int .i64 d1, .slice a3 d2.length p3, .string d3] 46).kept k5
            have HK5 : Hid (Kept w w5) := (HK.out.alloc _).trans k5
            have HN5 : Hid (NumAt w5 (.slice a3 d2.length p3) d2) := HN.out.kept ((But.refl _ _ _).alloc _ |>.trans k5)
            have ex : IntKind.i64.wrap (d1 - 1) = d1 - 1 := IntWalk.i64_in _ (by omega)
            have f1 := L5.cell 1 rfl
            have f2 := L5.cell 2 rfl
            have HL5 : Hid (Loc w5 wr.heap.size [.string d0, .int .i64 d1, .slice a3 d2.length p3, .string d3]) := L5
            clear eX eY di z1 z2 c0 c1 c2 c3 hgw k5 L5 AT AA AN HN q1 q2 q3 NJ YES NO hcs HB
            repeat (first | go_values | go_skip | go_guarded | go_step | go_upon)
            clear f1 f2
            go_loopw [51] (fun i wz => ∃ (k : Nat), k ≤ d2.length ∧ i = .int .i64 k ∧ Hid (∀ i, i < k → SortAt d1 d2 i) ∧ Kept w5 wz) (fun i _ => d2.length - (intOf i).toNat)
            case atStart => exact ⟨0, by omega, rfl, fun j hj => by omega, But.refl _ _ _⟩
            case round =>
              rename World => wz
              obtain ⟨k, hk5, rfl, HB, hkp⟩ := hrel
              have f1 := (HL5.out.kept hkp).cell 1 rfl
              have f2 := (HL5.out.kept hkp).cell 2 rfl
              by_cases hlt5 : k < d2.length
              · obtain ⟨p, hp⟩ : ∃ p : Int, d2[k]? = some p := ⟨_, List.getElem?_eq_getElem hlt5⟩
                have hn5 := HN5.out.kept hkp
                obtain ⟨g, o', cap1, ee, c0⟩ := num_get hn5 hp
                cases ee
                have HPk : Hid (d2[k]? = some p) := hp
                have HKz : Hid (Kept w5 wz) := hkp
                clear hkp hp
                rcases (Decidable.em (0 ≤ p ∧ p ≤ d1 - 1)).symm with h4 | h4
                · have dm : decide (0 ≤ p ∧ p ≤ d1 - 1) = false := decide_eq_false h4
                  have hR := NR.out (fun h => h4 (by obtain ⟨y1, y2, _⟩ := h k hlt5 p HPk.out; omega))
                  subst hR
                  clear hn5
                  repeat (first | (go_at_call 18; refine (sInG _ _ _ _).mono ?_; rintro e w3 ⟨rfl, hw3⟩; rw [hw3, dm]; clear hw3; dsimp only) | go_values | go_skip | go_guarded | go_step | go_upon)
                  go_ret
                  exact ⟨rfl, HK5.out.trans HKz.out⟩
                have dm : decide (0 ≤ p ∧ p ≤ d1 - 1) = true := decide_eq_true h4
                by_cases h0 : 0 < k
                · obtain ⟨k', hk'⟩ : ∃ k', k = k' + 1 := ⟨k - 1, by omega⟩
                  obtain ⟨q, hq⟩ : ∃ p : Int, d2[k']? = some p := ⟨_, List.getElem?_eq_getElem (by omega)⟩
                  obtain ⟨g2, o2, cap2, ee, r0⟩ := num_get hn5 hq
                  cases ee
                  have dj : decide (0 < k) = true := decide_eq_true h0
                  have ej : IntKind.i64.wrap ((k : Int) - 1) = (k' : Int) := by rw [IntWalk.i64_in _ (by omega)]; omega
                  have y1' : (0 : Int) ≤ (k' : Int) := by omega
                  have y2' : (k' : Int) < (d2.length : Int) := by omega
                  have HQ : Hid (d2[k']? = some q ∧ k = k' + 1) := ⟨hq, hk'⟩
                  clear hn5 hq hk'
                  by_cases h5 : p ≤ q
                  · have e5 : decide (p ≤ q) = true := decide_eq_true h5
                    have hR := NR.out (fun h => by
                      obtain ⟨_, _, y3⟩ := h k hlt5 p HPk.out
                      have h6 : q < p := y3 q (by omega) (by rw [HQ.out.2]; simpa using HQ.out.1)
                      omega)
                    subst hR
                    repeat (first | (go_at_call 18; refine (sInG _ _ _ _).mono ?_; rintro e w3 ⟨rfl, hw3⟩; rw [hw3, dm]; clear hw3; dsimp only) | go_values | go_skip | go_guarded | go_step | go_upon)
                    go_ret
                    exact ⟨rfl, HK5.out.trans HKz.out⟩
                  · have e5 : decide (p ≤ q) = false := decide_eq_false h5
                    repeat (first | (go_at_call 18; refine (sInG _ _ _ _).mono ?_; rintro e w3 ⟨rfl, hw3⟩; rw [hw3, dm]; clear hw3; dsimp only) | go_values | go_skip | go_guarded | go_step | go_upon)
                    clear dj
                    have I : ∀ i, i < k + 1 → SortAt d1 d2 i := all_more HB.out (fun x hx => by
                      rw [HPk.out] at hx
                      cases hx
                      refine ⟨by omega, by have := h4.2; show p < d1; omega, fun y _ hy => ?_⟩
                      rw [HQ.out.2] at hy
                      simp only [Nat.add_sub_cancel] at hy
                      rw [HQ.out.1] at hy
                      have hyq : q = y := Option.some.inj hy
                      subst hyq
                      show q < p
                      omega)
                    exact ⟨⟨k + 1, hlt5, by go_num, I, HKz.out⟩, by simp [intOf]; omega⟩
                · have dj : decide (0 < k) = false := decide_eq_false h0
                  clear hn5
                  repeat (first | (go_at_call 18; refine (sInG _ _ _ _).mono ?_; rintro e w3 ⟨rfl, hw3⟩; rw [hw3, dm]; clear hw3; dsimp only) | go_values | go_skip | go_guarded | go_step | go_upon)
                  clear dj
                  have I : ∀ i, i < k + 1 → SortAt d1 d2 i := all_more HB.out (fun x hx => by
                    rw [HPk.out] at hx
                    cases hx
                    exact ⟨by omega, by omega, fun y hy => by omega⟩)
                  exact ⟨⟨k + 1, hlt5, by go_num, I, HKz.out⟩, by simp [intOf]; omega⟩
              · have hke : k = d2.length := by omega
                subst hke
                have HKz : Hid (Kept w5 wz) := hkp
                clear hkp
                repeat (first | go_values | go_skip | go_guarded | go_step | go_upon)
                exact ⟨⟨j + 1, hlt, by go_num, YR.out HB.out, HK5.out.trans HKz.out⟩, by simp [intOf]; omega⟩
    · have hke : j = l.length := by omega
      subst hke
      have hR := YES.out ⟨by omega, HB.out⟩
      subst hR
      have HK : Hid (Kept w wr) := hkp
      clear hkp
      repeat (first | go_values | go_skip | go_guarded | go_step | go_upon)
      go_ret
      exact ⟨rfl, HK.out⟩

end Go.Proofs.YtapfafibhjpkdaaDoor
