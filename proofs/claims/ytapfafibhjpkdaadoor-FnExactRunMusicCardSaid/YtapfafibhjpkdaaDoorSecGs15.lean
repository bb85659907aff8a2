/-
  Good sections in the program.
-/
import Derived.Test.YtapfafibhjpkdaaDoorSecG15
import Derived.Test.YtapfafibhjpkdaaDoorQuiet
namespace Go.Proofs.YtapfafibhjpkdaaDoor
open Go.ChangeShapes Go.WideShapes Go.ChangeAt Go.RowKit

set_option maxRecDepth 100000
set_option linter.unusedVariables false

theorem cap_of {w : World} {lo hi : Nat} {ao : Option Addr} {cap : Nat} {ds : List SectionD} (h : SecsO w lo hi (.slice ao ds.length cap) ds) : ds.length ≤ cap ∧ cap ≤ 9223372036854775807 := by
  obtain ⟨ts, h, e⟩ := h
  have hl := secs_len e
  rcases h.row.1.2 with ⟨hf, h0⟩ | ⟨g, c, cur, hf, _, _, h1, h2, _⟩
  · injection hf with _ e1 e2
    omega
  · injection hf with _ e1 e2
    unfold maxLen at h2
    omega
set_option maxHeartbeats 4000000 in
theorem igsecs (l : List SectionD) (ao : Option Addr) (cap : Nat) (w : World) (hv : SecsAt w (.slice ao l.length cap) l) (hcap : l.length ≤ cap ∧ cap ≤ 9223372036854775807) (hn : secsCost l ≤ 1048576) :
    Calls Tryd.prog 34 #[.slice ao l.length cap] w fun e w' => e = .returned (.bool (dec (SecsP l))) ∧ Kept w w' := by
  have hcs : Hid (∀ d ∈ l, d.1.size ≤ 1048576 ∧ d.2.2.1.length ≤ 1048576) := fun d hd => by
    have := secs_one hd
    unfold secsOne at this
    omega
  have hln : l.length ≤ 1048576 := by unfold secsCost at hn; omega
  clear hn
  have NO : Hid (¬ SecsP l → dec (SecsP l) = false) := dec_no
  have YES : Hid (SecsP l → dec (SecsP l) = true) := dec_yes
  generalize dec (SecsP l) = R at *
  by_cases h1 : l.length < 1
  · rw [NO.out fun h => by have := h.1; omega]
    go_enter Tryd.func34, Tryd.ntmps34
    go_wp2
    go_ret
    exact ⟨rfl, But.refl _ _ _⟩
  by_cases h2 : 64 < l.length
  · rw [NO.out fun h => by have := h.1; omega]
    go_enter Tryd.func34, Tryd.ntmps34
    go_wp2
    go_ret
    exact ⟨rfl, But.refl _ _ _⟩
  go_enter Tryd.func34, Tryd.ntmps34
  go_wp2
  go_loopw [15] (fun i wr => ∃ (k : Nat), k ≤ l.length ∧ i = .int .i64 k ∧ Hid (∀ j, j < k → SecOk l j) ∧ Kept w wr) (fun i _ => l.length - (intOf i).toNat)
  case atStart => exact ⟨0, by omega, rfl, fun j hj => by omega, But.refl _ _ _⟩
  case round =>
    obtain ⟨j, hk, rfl, HB, hkp⟩ := hrel
    by_cases hlt : j < l.length
    · obtain ⟨d, hd⟩ : ∃ p, l[j]? = some p := ⟨_, List.getElem?_eq_getElem hlt⟩
      have hv1 := hv.kept hkp
      obtain ⟨b, o, cap', s, ee, c0, c1, c2, c3, hka⟩ := hv1.get hd
      cases ee
      have hsz := hcs.out d (List.mem_of_getElem? hd)
      have HP : Hid (l[j]? = some d) := hd
      have HK : Hid (Kept w wr) := hkp
      obtain ⟨d0, d1, d2, d3⟩ := d
      dsimp only at c0 c1 c2 c3 hka hsz
      obtain ⟨a3, p3, hsl⟩ := row_nil hka
      subst hsl
      have AG : Hid (∀ W, Kept wr W → Calls Tryd.prog 40 #[.agg #[.string d0, .int .i64 d1, .slice a3 d2.length p3, .string d3]] W fun e w' => e = .returned (.bool (dec (SecOne (d0, d1, d2, d3)))) ∧ Kept W w') := fun W k => igsec d0 d1 d2 d3 _ _ W (hka.kept k) hsz.1 hsz.2
      have AT : Hid (∀ W, Kept wr W → Calls Tryd.prog 35 #[.slice (some ⟨b, o, none⟩) j cap, .string d0] W fun e w' => e = .returned (.bool (hasB (l.take j) d0)) ∧ Kept W w') := fun W k => iis (l.take j) d0 _ W ((hv1.kept k).take j (by omega)) (by rw [List.length_take]; omega)
      have AA : Hid (∀ W, Kept wr W → Calls Tryd.prog 35 #[.slice (some ⟨b, o, none⟩) l.length cap, .string d3] W fun e w' => e = .returned (.bool (hasB l d3)) ∧ Kept W w') := fun W k => iis l d3 _ W (hv1.kept k) (by omega)
      have NJ : Hid (¬ SecOk l j → R = false) := fun h => NO.out (fun h' => h (h'.2 j hlt))
      have hgw : b < wr.heap.size := World.block_lt_of_cell? _ _ c0
      have z0 : (0 : Int) ≤ (j : Int) := by omega
      have z1 : (j : Int) ≤ (cap : Int) := by omega
      have z2 : j ≤ cap := by omega
      clear hd hka hkp hv hv1
      cases q1 : dec (SecOne (d0, d1, d2, d3)) with
      | false =>
        rw [q1] at AG
        have hR := NJ.out (fun h => of_dec_no q1 (h _ HP.out).1)
        subst hR
        repeat (first | go_values | go_skip | go_guarded | go_step | go_upon)
        refine wp_region_kept (by kernel_rfl) (by kernel_rfl) ?_
        have hcc := @KW.cell_eq
        repeat (go_big_quiet_step (first | (go_at_call 40; exact kw_call (AG.out _ (But.trans ((But.refl _ _ _).alloc _) (KW.k _))))))
        refine wpQuiet_nil ?_
        rintro w5 ⟨⟨w8, k5⟩, h9⟩
        change w5 = w8 at h9
        subst h9
        clear hcc
        repeat (first | go_values | go_skip | go_guarded | go_step | go_upon)
        go_ret
        exact ⟨rfl, (HK.out.alloc _).trans k5⟩
      | true =>
        rw [q1] at AG
        cases q2 : hasB (l.take j) d0 with
        | true =>
          rw [q2] at AT
          have hR := NJ.out (fun h => by have := (h _ HP.out).2.1; dsimp only at this; rw [q2] at this; exact absurd this (by simp))
          subst hR
          repeat (first | go_values | go_skip | go_guarded | go_step | go_upon)
          refine wp_region_kept (by kernel_rfl) (by kernel_rfl) ?_
          have hcc := @KW.cell_eq
          repeat (go_big_quiet_step (first | (go_at_call 40; exact kw_call (AG.out _ (But.trans ((But.refl _ _ _).alloc _) (KW.k _)))) | (go_at_call 35; with_reducible exact kw_call (AT.out _ (But.trans ((But.refl _ _ _).alloc _) (KW.k _))))))
          refine wpQuiet_nil ?_
          rintro w5 ⟨⟨w8, k5⟩, h9⟩
          change w5 = w8 at h9
          subst h9
          clear hcc
          repeat (first | go_values | go_skip | go_guarded | go_step | go_upon)
          go_ret
          exact ⟨rfl, (HK.out.alloc _).trans k5⟩
        | false =>
          rw [q2] at AT
          cases q3 : hasB l d3 with
          | false =>
            rw [q3] at AA
            have hR := NJ.out (fun h => by have := (h _ HP.out).2.2; dsimp only at this; rw [q3] at this; exact absurd this (by simp))
            subst hR
            repeat (first | go_values | go_skip | go_guarded | go_step | go_upon)
            refine wp_region_kept (by kernel_rfl) (by kernel_rfl) ?_
            have hcc := @KW.cell_eq
            repeat (go_big_quiet_step (first | (go_at_call 40; exact kw_call (AG.out _ (But.trans ((But.refl _ _ _).alloc _) (KW.k _)))) | (go_at_call 35; with_reducible exact kw_call (AT.out _ (But.trans ((But.refl _ _ _).alloc _) (KW.k _)))) | (go_at_call 35; with_reducible exact kw_call (AA.out _ (But.trans ((But.refl _ _ _).alloc _) (KW.k _))))))
            refine wpQuiet_nil ?_
            rintro w5 ⟨⟨w8, k5⟩, h9⟩
            change w5 = w8 at h9
            subst h9
            clear hcc
            repeat (first | go_values | go_skip | go_guarded | go_step | go_upon)
            go_ret
            exact ⟨rfl, (HK.out.alloc _).trans k5⟩
          | true =>
            rw [q3] at AA
            repeat (first | go_values | go_skip | go_guarded | go_step | go_upon)
            refine wp_region_kept (by kernel_rfl) (by kernel_rfl) ?_
            have hcc := @KW.cell_eq
            repeat (go_big_quiet_step (first | (go_at_call 40; exact kw_call (AG.out _ (But.trans ((But.refl _ _ _).alloc _) (KW.k _)))) | (go_at_call 35; with_reducible exact kw_call (AT.out _ (But.trans ((But.refl _ _ _).alloc _) (KW.k _)))) | (go_at_call 35; with_reducible exact kw_call (AA.out _ (But.trans ((But.refl _ _ _).alloc _) (KW.k _))))))
            refine wpQuiet_nil ?_
            rintro w5 ⟨⟨w8, k5⟩, h9⟩
            change w5 = w8 at h9
            subst h9
            clear hcc
            repeat (first | go_values | go_skip | go_guarded | go_step | go_upon)
            have I : ∀ i, i < j + 1 → SecOk l i := all_more HB.out (fun d hd => by rw [HP.out] at hd; cases hd; exact ⟨of_dec q1, q2, q3⟩)
            exact ⟨⟨j + 1, hlt, by go_num, I, (HK.out.alloc _).trans k5⟩, by simp [intOf]; omega⟩
    · have hke : j = l.length := by omega
      subst hke
      have hR := YES.out ⟨by omega, HB.out⟩
      subst hR
      have HK : Hid (Kept w wr) := hkp
      clear hkp
      repeat (first | go_values | go_skip | go_guarded | go_step | go_upon)
      go_ret
      exact ⟨rfl, HK.out⟩

end Go.Proofs.YtapfafibhjpkdaaDoor
