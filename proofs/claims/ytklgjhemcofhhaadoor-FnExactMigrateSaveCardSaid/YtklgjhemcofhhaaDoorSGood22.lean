/-
  Which values are good: the specification.
-/
import Derived.Test.YtklgjhemcofhhaaDoorLeaf22
import Derived.Test.YtklgjhemcofhhaaDoorVal
import Derived.Test.YtklgjhemcofhhaaDoorQuiet
import Derived.Deep.Cut
import Derived.BigQuiet
import Derived.WalkLawsBesides
namespace Go.Proofs.YtklgjhemcofhhaaDoor
open Go.ChangeShapes Go.WideShapes Go.ChangeAt Go.RowKit

set_option maxRecDepth 100000
set_option linter.unusedVariables false
set_option linter.unusedSimpArgs false

theorem then_exit {F : Act → World → Prop} {R : Exit → Act → World → Prop} {n : Nat} {a : Act} {w : World} (h : R (.exit n) a w) : Exit.then F R (.exit n) a w := h
theorem then_normal {F : Act → World → Prop} {R : Exit → Act → World → Prop} {a : Act} {w : World} (h : F a w) : Exit.then F R .normal a w := h
theorem block_hit {id : Nat} {Q : Exit → Act → World → Prop} {a : Act} {w : World} (h : Q .normal a w) : Exit.inBlock id Q (.exit id) a w := by
  show (if id = id then Q .normal a w else Q (.exit id) a w)
  rw [if_pos rfl]
  exact h
theorem block_normal {id : Nat} {Q : Exit → Act → World → Prop} {a : Act} {w : World} (h : Q .normal a w) : Exit.inBlock id Q .normal a w := h
theorem forgetX {P : Program} {c : Go.Code} {Q : Exit → Act → World → Prop} {a : Act} {W : World} (F : World → Prop) (hF : F W) (h : ∀ W', F W' → Code.wp P c Q a W') : Code.wp P c Q a W := h W hF

set_option maxHeartbeats 8000000 in
theorem sgoodv (l : List ValD) (v : Value) (w : World) (hv : ValAt w v l) (hn : l.length ≤ 1048576) (hs0 : ∀ d ∈ l, d.1.size ≤ 1048576 ∧ d.2.2.size ≤ 1048576) :
    Calls Tryd.prog 25 #[v] w fun e w' => e = .returned (.bool (decide (ValsP l))) ∧ Kept w w' := by
  obtain ⟨ao, cap, hsl⟩ := row_nil hv
  subst hsl
  have HS : Hid (∀ d ∈ l, d.1.size ≤ 1048576 ∧ d.2.2.size ≤ 1048576) := hs0
  clear hs0
  have NO : Hid (¬ ValsP l → decide (ValsP l) = false) := decide_eq_false
  have YES : Hid (ValsP l → decide (ValsP l) = true) := decide_eq_true
  generalize decide (ValsP l) = R at *
  by_cases h2 : 30 < l.length
  · have hd2 : decide ((30 : Int) < (l.length : Int)) = true := decide_eq_true (by omega)
    rw [NO.out fun h => by have := h.2.1; rw [namesOf_len] at this; omega]
    go_enter Tryd.func25, Tryd.ntmps25
    repeat (first | go_values | go_skip | go_guarded | go_step | go_upon)
    go_ret
    exact ⟨rfl, But.refl _ _ _⟩
  have hd2 : decide ((30 : Int) < (l.length : Int)) = false := decide_eq_false (by omega)
  go_enter Tryd.func25, Tryd.ntmps25
  repeat (first | go_values | go_skip | go_guarded | go_step | go_upon)
  clear hd2
  go_loopw [10] (fun i wr => ∃ (k : Nat), k ≤ l.length ∧ i = .int .i64 k ∧ Hid (∀ j, j < k → ((∀ d, l[j]? = some d → d.2.2.size ≤ 100) ∧ KeyOk (namesOf l) j)) ∧ Kept w wr) (fun i _ => l.length - (intOf i).toNat)
  case atStart => exact ⟨0, by omega, rfl, fun j hj => by omega, But.refl _ _ _⟩
  case round =>
    obtain ⟨k, hk, rfl, HB, hkp⟩ := hrel
    by_cases hlt : k < l.length
    · obtain ⟨d, hd⟩ : ∃ p, l[k]? = some p := ⟨_, List.getElem?_eq_getElem hlt⟩
      obtain ⟨b, o, cap', e, c0, c1, c2⟩ := val_get (hv.kept hkp) hd
      cases e
      have hsz := HS.out d (List.mem_of_getElem? hd)
      have HP : Hid (l[k]? = some d) := hd
      have HV : Hid (ValAt wr (.slice (some ⟨b, o, none⟩) l.length cap) l) := hv.kept hkp
      obtain ⟨d0, d1, d2⟩ := d
      dsimp only at c0 c1 c2 hsz
      have NJ : Hid (¬ (d2.size ≤ 100 ∧ KeyOk (namesOf l) k) → R = false) := fun h => NO.out (fun h' => h ⟨h'.1 _ (List.mem_of_getElem? HP.out), h'.2.2 k (by rw [namesOf_len]; exact hlt)⟩)
      have OKB : Hid (d2.size ≤ 100 → KeyOk (namesOf l) k → ((∀ d, l[k]? = some d → d.2.2.size ≤ 100) ∧ KeyOk (namesOf l) k)) := fun a b => ⟨fun d hd => by rw [HP.out] at hd; cases hd; exact a, b⟩
      have hgw : b < wr.heap.size := World.block_lt_of_cell? _ _ c0
      have z0 : (0 : Int) ≤ (k : Int) := by omega
      have z1 : (k : Int) < (l.length : Int) := by omega
      have HK : Hid (Kept w wr) := hkp
      have HSZ : Hid (d0.size ≤ 1048576 ∧ d2.size ≤ 1048576) := hsz
      clear hd hkp hv hsz
      have LX := Loc.new wr [.string d0, .int .i64 d1, .string d2] 53
      repeat (go_not_at_region 6; first | go_values | go_skip | go_guarded | go_step | go_upon)
      refine forgetX (fun W6 => Kept wr W6 ∧ Loc W6 wr.heap.size [.string d0, .int .i64 d1, .string d2]) ⟨(But.refl _ _ _).alloc _, LX⟩ ?_
      intro W6 hW6
      obtain ⟨k6, LX⟩ := hW6
      clear c0 c1 c2
      have x0 := LX.cell 0 rfl
      have x2 := LX.cell 2 rfl
      have xl := LX.lt
      have HK6 : Hid (Kept w W6) := HK.out.trans k6
      have HV6 : Hid (ValAt W6 (.slice (some ⟨b, o, none⟩) l.length cap) l) := HV.out.kept k6
      clear k6 LX HV HK hgw
      have AN : Hid (∀ W, Calls Tryd.prog 41 #[.string d0] W fun e w' => e = .returned (.bool (nameB d0)) ∧ w' = W) := fun W => sname d0 W HSZ.out.1
      cases q1 : nameB d0 with
      | false =>
        have hR := NJ.out (fun h => key_no (namesOf_get HP.out) q1 h.2)
        subst hR
        rw [q1] at AN
        repeat (first | go_values | go_skip | go_guarded | go_step | go_upon)
        refine wp_region_kept (by kernel_rfl) (by kernel_rfl) ?_
        have hne := kw_some W6
        have hcc := KW.cell_eq W6
        have hcf := fun (x : KW W6) (b o : Nat) (hb : b < W6.heap.size) => x.k.frozen_eq b o hb
        repeat (first | (go_big_quiet_step (first | (go_at_call 41; with_reducible exact kw_same (AN.out _)))) | (go_big_quiet_want; go_big_quiet_op; refine ⟨_, fun _ => (by with_reducible rfl), ?_⟩; go_big_quiet_on))
        refine wpQuiet_nil ?_
        rintro w5 ⟨⟨w8, k5⟩, h9⟩
        change w5 = w8 at h9
        subst h9
        clear hcc hne hcf
        repeat (first | go_values | go_skip | go_guarded | go_step | go_upon)
        go_ret
        exact ⟨rfl, HK6.out.trans k5⟩
      | true =>
        rw [q1] at AN
        rcases (Decidable.em (d2.size ≤ 100)).symm with h1 | h1
        · have dt : decide ((100 : Int) < (d2.size : Int)) = true := decide_eq_true (by omega)
          have hR := NJ.out (fun h => h1 h.1)
          subst hR
          clear h1
          repeat (first | go_values | go_skip | go_guarded | go_step | go_upon)
          refine wp_region_kept (by kernel_rfl) (by kernel_rfl) ?_
          have hne := kw_some W6
          have hcc := KW.cell_eq W6
          have hcf := fun (x : KW W6) (b o : Nat) (hb : b < W6.heap.size) => x.k.frozen_eq b o hb
          repeat (first | (go_big_quiet_step (first | (go_at_call 41; with_reducible exact kw_same (AN.out _)))) | (go_big_quiet_want; go_big_quiet_op; refine ⟨_, fun _ => (by with_reducible rfl), ?_⟩; go_big_quiet_on))
          refine wpQuiet_nil ?_
          rintro w5 ⟨⟨w8, k5⟩, h9⟩
          change w5 = w8 at h9
          subst h9
          clear hcc hne hcf
          repeat (first | go_values | go_skip | go_guarded | go_step | go_upon)
          go_ret
          exact ⟨rfl, HK6.out.trans k5⟩
        have dt : decide ((100 : Int) < (d2.size : Int)) = false := decide_eq_false (by omega)
        have HT : Hid (d2.size ≤ 100) := h1
        clear h1
        by_cases h0 : 0 < k
        · obtain ⟨j', hj'⟩ : ∃ j', k = j' + 1 := ⟨k - 1, by omega⟩
          obtain ⟨a, hq⟩ : ∃ r, l[j']? = some r := ⟨_, List.getElem?_eq_getElem (by omega)⟩
          obtain ⟨bb2, o2, cap2, e2, r0, r1, r2⟩ := val_get HV6.out hq
          cases e2
          have HO : Hid (KeyOk (namesOf l) k ↔ Op.bytesLess a.1.toList d0.toList = true) := key_next (namesOf_get HP.out) q1 hj' (namesOf_get hq)
          obtain ⟨g, ga, gb⟩ := a
          dsimp only at r0 r1 r2 HO
          have rl := World.block_lt_of_cell? _ _ r0
          have dj : decide (0 < k) = true := decide_eq_true h0
          have dk : decide ((0 : Int) < (k : Int)) = true := by simp; omega
          have ej : IntKind.i64.wrap ((k : Int) - 1) = (j' : Int) := by rw [IntWalk.i64_in _ (by omega)]; omega
          have y1' : (0 : Int) ≤ (j' : Int) := by omega
          have y2' : (j' : Int) < (l.length : Int) := by omega
          clear hj' hq r1 r2
          cases q3 : Op.bytesLess g.toList d0.toList with
          | false =>
            have hR := NJ.out (fun h => by have := HO.out.1 h.2; rw [q3] at this; cases this)
            subst hR
            clear HO
            repeat (first | go_values | go_skip | go_guarded | go_step | go_upon)
            refine wp_region_kept (by kernel_rfl) (by kernel_rfl) ?_
            have hne := kw_some W6
            have hcc := KW.cell_eq W6
            have hcf := fun (x : KW W6) (b o : Nat) (hb : b < W6.heap.size) => x.k.frozen_eq b o hb
            repeat (first | (go_big_quiet_step (first | (go_at_call 41; with_reducible exact kw_same (AN.out _)))) | (go_big_quiet_want; go_big_quiet_op; refine ⟨_, fun _ => (by with_reducible rfl), ?_⟩; go_big_quiet_on))
            refine wpQuiet_nil ?_
            rintro w5 ⟨⟨w8, k5⟩, h9⟩
            change w5 = w8 at h9
            subst h9
            clear hcc hne hcf
            repeat (first | go_values | go_skip | go_guarded | go_step | go_upon)
            go_ret
            exact ⟨rfl, HK6.out.trans k5⟩
          | true =>
            have HOK : Hid ((∀ d, l[k]? = some d → d.2.2.size ≤ 100) ∧ KeyOk (namesOf l) k) := OKB.out HT.out (HO.out.2 q3)
            clear HO
            repeat (first | go_values | go_skip | go_guarded | go_step | go_upon)
            refine wp_region_kept (by kernel_rfl) (by kernel_rfl) ?_
            have hne := kw_some W6
            have hcc := KW.cell_eq W6
            have hcf := fun (x : KW W6) (b o : Nat) (hb : b < W6.heap.size) => x.k.frozen_eq b o hb
            repeat (first | (go_big_quiet_step (first | (go_at_call 41; with_reducible exact kw_same (AN.out _)))) | (go_big_quiet_want; go_big_quiet_op; refine ⟨_, fun _ => (by with_reducible rfl), ?_⟩; go_big_quiet_on))
            refine wpQuiet_nil ?_
            rintro w5 ⟨⟨w8, k5⟩, h9⟩
            change w5 = w8 at h9
            subst h9
            clear hcc hne hcf
            repeat (first | go_values | go_skip | go_guarded | go_step | go_upon)
            clear dj dk r0 rl y1' y2' ej q3
            exact ⟨⟨k + 1, hlt, by go_num, all_more HB.out HOK.out, HK6.out.trans k5⟩, by simp [intOf]; omega⟩
        · have HOK : Hid ((∀ d, l[k]? = some d → d.2.2.size ≤ 100) ∧ KeyOk (namesOf l) k) := OKB.out HT.out (key_first (namesOf_get HP.out) q1 h0)
          have dj : decide (0 < k) = false := decide_eq_false h0
          have dk : decide ((0 : Int) < (k : Int)) = false := by simp; omega
          clear h0
          repeat (first | go_values | go_skip | go_guarded | go_step | go_upon)
          refine wp_region_kept (by kernel_rfl) (by kernel_rfl) ?_
          have hne := kw_some W6
          have hcc := KW.cell_eq W6
          have hcf := fun (x : KW W6) (b o : Nat) (hb : b < W6.heap.size) => x.k.frozen_eq b o hb
          repeat (first | (go_big_quiet_step (first | (go_at_call 41; with_reducible exact kw_same (AN.out _)))) | (go_big_quiet_want; go_big_quiet_op; refine ⟨_, fun _ => (by with_reducible rfl), ?_⟩; go_big_quiet_on))
          refine wpQuiet_nil ?_
          rintro w5 ⟨⟨w8, k5⟩, h9⟩
          change w5 = w8 at h9
          subst h9
          clear hcc hne hcf
          repeat (first | go_values | go_skip | go_guarded | go_step | go_upon)
          clear dj dk
          exact ⟨⟨k + 1, hlt, by go_num, all_more HB.out HOK.out, HK6.out.trans k5⟩, by simp [intOf]; omega⟩
    · have hke : k = l.length := by omega
      subst hke
      have hR := YES.out ⟨fun d hd => by obtain ⟨j, hj⟩ := List.mem_iff_getElem?.1 hd; exact (HB.out j (List.getElem?_eq_some_iff.1 hj).1).1 d hj, by rw [namesOf_len]; omega, fun j hj => (HB.out j (by rw [namesOf_len] at hj; exact hj)).2⟩
      subst hR
      repeat (first | go_values | go_skip | go_guarded | go_step | go_upon)
      go_ret
      exact ⟨rfl, hkp⟩

end Go.Proofs.YtklgjhemcofhhaaDoor
