/-
  Whether the keys of a list of entries rise: the specification.
-/
import Derived.Test.YtgbgnmjgnfocmaaLeaf19
import Derived.Test.YtgbgnmjgnfocmaaQuiet
import Derived.WalkLawsBesides
import Derived.BigQuiet
namespace Go.Proofs.Ytgbgnmjgnfocmaa
open Go.ChangeShapes Go.WideShapes Go.ChangeAt Go.RowKit

set_option maxRecDepth 100000
set_option linter.unusedVariables false

set_option maxHeartbeats 8000000 in
theorem skeys (l : List EntryD) (v : Value) (w : World) (hv : EntriesAt w v l) (hn : l.length ≤ 1048576) (hs0 : ∀ d ∈ l, d.1.size ≤ 1048576) :
    Calls Try.prog 14 #[v] w fun e w' => e = .returned (.bool (dec (KeysP 60 (keysOf l)))) ∧ Kept w w' := by
  obtain ⟨ao, cap, hsl⟩ := hv.form
  subst hsl
  have hs : Hid (∀ d ∈ l, d.1.size ≤ 1048576) := hs0
  clear hs0
  have NO : Hid (¬ KeysP 60 (keysOf l) → dec (KeysP 60 (keysOf l)) = false) := dec_no
  have YES : Hid (KeysP 60 (keysOf l) → dec (KeysP 60 (keysOf l)) = true) := dec_yes
  generalize dec (KeysP 60 (keysOf l)) = R at *
  by_cases h2 : 60 < l.length
  · rw [NO.out fun h => by have := h.1; rw [keysOf_len] at this; omega]
    go_enter Try.func14, Try.ntmps14
    go_wp2
    go_ret
    exact ⟨rfl, But.refl _ _ _⟩
  go_enter Try.func14, Try.ntmps14
  go_wp2
  go_loopw [10] (fun i wr => ∃ (k : Nat), k ≤ l.length ∧ i = .int .i64 k ∧ Hid (∀ j, j < k → KeyOk (keysOf l) j) ∧ Kept w wr) (fun i _ => l.length - (intOf i).toNat)
  case atStart => exact ⟨0, by omega, rfl, fun j hj => by omega, But.refl _ _ _⟩
  case round =>
    obtain ⟨j, hk, rfl, HB, hkp⟩ := hrel
    by_cases hlt : j < l.length
    · obtain ⟨d, hd⟩ : ∃ p, l[j]? = some p := ⟨_, List.getElem?_eq_getElem hlt⟩
      have hv1 := hv.kept hkp
      obtain ⟨b, o, cap', s, ee, c0, c1, c2, hka⟩ := hv1.get hd
      cases ee
      have hsz := hs.out d (List.mem_of_getElem? hd)
      have HP : Hid (l[j]? = some d) := hd
      have HK : Hid (Kept w wr) := hkp
      obtain ⟨d0, d1, d2⟩ := d
      dsimp only at c0 c1 c2 hka hsz
      obtain ⟨a3, p3, hsl⟩ := row_nil hka
      subst hsl
      have NJ : Hid (¬ KeyOk (keysOf l) j → R = false) := fun h => NO.out (fun h' => h (h'.2 j (by rw [keysOf_len]; exact hlt)))
      have hgw : b < wr.heap.size := World.block_lt_of_cell? _ _ c0
      have z0 : (0 : Int) ≤ (j : Int) := by omega
      have HV : Hid (EntriesAt wr (.slice (some ⟨b, o, none⟩) l.length cap) l) := hv1
      clear hd hka hkp hv hv1
      cases q1 : nameB d0 with
      | false =>
        have AN : Hid (∀ W, Calls Try.prog 22 #[.string d0] W fun e w' => e = .returned (.bool false) ∧ w' = W) := fun W => by rw [← q1]; exact sname d0 W hsz
        have hR := NJ.out (fun h => by have := (h _ (keysOf_get HP.out)).1; dsimp only at this; rw [q1] at this; exact absurd this (by simp))
        subst hR
        repeat (first | go_values | go_skip | go_guarded | go_step | go_upon)
        refine wp_region_kept (by kernel_rfl) (by kernel_rfl) ?_
        have hcc := @KW.cell_eq
        repeat (go_big_quiet_step (first | (go_at_call 22; with_reducible exact kw_same (AN.out _))))
        refine wpQuiet_nil ?_
        rintro w5 ⟨⟨w8, k5⟩, h9⟩
        change w5 = w8 at h9
        subst h9
        clear hcc
        repeat (first | go_values | go_skip | go_guarded | go_step | go_upon)
        go_ret
        exact ⟨rfl, (HK.out.alloc _).trans k5⟩
      | true =>
        have AN : Hid (∀ W, Calls Try.prog 22 #[.string d0] W fun e w' => e = .returned (.bool true) ∧ w' = W) := fun W => by rw [← q1]; exact sname d0 W hsz
        by_cases h0 : 0 < j
        · obtain ⟨j', hj'⟩ : ∃ j', j = j' + 1 := ⟨j - 1, by omega⟩
          obtain ⟨a, hq⟩ : ∃ b, l[j']? = some b := ⟨_, List.getElem?_eq_getElem (by omega)⟩
          obtain ⟨bb2, o2, cap2, sv2, e2, r0, r1, r2, _⟩ := HV.out.get hq
          cases e2
          have HO : Hid (KeyOk (keysOf l) j ↔ Op.bytesLess a.1.toList d0.toList = true) := key_next (keysOf_get HP.out) q1 hj' (keysOf_get hq)
          obtain ⟨g, gk, gp⟩ := a
          dsimp only at r0 r1 r2 HO
          have dj : decide (0 < j) = true := decide_eq_true h0
          have ej : IntKind.i64.wrap ((j : Int) - 1) = (j' : Int) := by rw [IntWalk.i64_in _ (by omega)]; omega
          have y1' : (0 : Int) ≤ (j' : Int) := by omega
          have y2' : (j' : Int) < (l.length : Int) := by omega
          clear hj' hq r1 r2
          cases q3 : Op.bytesLess g.toList d0.toList with
          | false =>
            have hR := NJ.out (fun h => by have := HO.out.1 h; rw [q3] at this; exact absurd this (by simp))
            subst hR
            repeat (first | go_values | go_skip | go_guarded | go_step | go_upon)
            refine wp_region_kept (by kernel_rfl) (by kernel_rfl) ?_
            have hcc := @KW.cell_eq
            repeat (go_big_quiet_step (first | (go_at_call 22; with_reducible exact kw_same (AN.out _))))
            refine wpQuiet_nil ?_
            rintro w5 ⟨⟨w8, k5⟩, h9⟩
            change w5 = w8 at h9
            subst h9
            clear hcc
            repeat (first | go_values | go_skip | go_guarded | go_step | go_upon)
            go_ret
            exact ⟨rfl, (HK.out.alloc _).trans k5⟩
          | true =>
            have HOK : Hid (KeyOk (keysOf l) j) := HO.out.2 q3
            clear HO
            repeat (first | go_values | go_skip | go_guarded | go_step | go_upon)
            refine wp_region_kept (by kernel_rfl) (by kernel_rfl) ?_
            have hcc := @KW.cell_eq
            repeat (go_big_quiet_step (first | (go_at_call 22; with_reducible exact kw_same (AN.out _))))
            refine wpQuiet_nil ?_
            rintro w5 ⟨⟨w8, k5⟩, h9⟩
            change w5 = w8 at h9
            subst h9
            clear hcc
            repeat (first | go_values | go_skip | go_guarded | go_step | go_upon)
            clear dj
            have I : ∀ i, i < j + 1 → KeyOk (keysOf l) i := all_more HB.out HOK.out
            exact ⟨⟨j + 1, hlt, by go_num, I, (HK.out.alloc _).trans k5⟩, by simp [intOf]; omega⟩
        · have dj : decide (0 < j) = false := decide_eq_false h0
          have HOK : Hid (KeyOk (keysOf l) j) := key_first (keysOf_get HP.out) q1 h0
          clear h0
          repeat (first | go_values | go_skip | go_guarded | go_step | go_upon)
          refine wp_region_kept (by kernel_rfl) (by kernel_rfl) ?_
          have hcc := @KW.cell_eq
          repeat (go_big_quiet_step (first | (go_at_call 22; with_reducible exact kw_same (AN.out _))))
          refine wpQuiet_nil ?_
          rintro w5 ⟨⟨w8, k5⟩, h9⟩
          change w5 = w8 at h9
          subst h9
          clear hcc
          repeat (first | go_values | go_skip | go_guarded | go_step | go_upon)
          clear dj
          have I : ∀ i, i < j + 1 → KeyOk (keysOf l) i := all_more HB.out HOK.out
          exact ⟨⟨j + 1, hlt, by go_num, I, (HK.out.alloc _).trans k5⟩, by simp [intOf]; omega⟩
    · have hke : j = l.length := by omega
      subst hke
      have hR := YES.out ⟨by rw [keysOf_len]; omega, by rw [keysOf_len]; exact HB.out⟩
      subst hR
      go_wp2
      go_ret
      exact ⟨rfl, hkp⟩

end Go.Proofs.Ytgbgnmjgnfocmaa
