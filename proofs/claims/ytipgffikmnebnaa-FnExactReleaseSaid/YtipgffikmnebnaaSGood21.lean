/-
  Which stores are good: the specification.
-/
import Derived.Test.YtipgffikmnebnaaUse21
import Derived.Test.YtipgffikmnebnaaIGood21
import Derived.Deep.Cut
import Derived.BigQuiet
import Derived.WalkLawsBesides
namespace Go.Proofs.Ytipgffikmnebnaa
open Go.ChangeShapes Go.WideShapes Go.ChangeAt Go.RowKit

set_option maxHeartbeats 8000000 in
theorem sgood (c : StoreD) (v : Value) (lo hi : Nat) (w : World) (hv0 : StoreO w lo hi v c) (hn : c.2.2.length ≤ 1048576) (hs : ∀ r ∈ c.2.2, r.1.size ≤ 1048576) :
    Calls Try.prog 40 #[v] w fun e w' => e = .returned (.bool (storeB c)) ∧ Kept w w' := by
  obtain ⟨ao, cap, hfm⟩ := hv0.form
  subst hfm
  have hr := hv0.row.at
  have hcap := res_caps hv0.row
  clear hv0
  have HSZ : Hid (∀ r ∈ c.2.2, r.1.size ≤ 1048576) := hs
  clear hs
  have NO1 : Hid (¬ (1 ≤ c.1 ∧ c.1 ≤ 100000) → storeB c = false) := store_no1
  have NO2 : Hid (¬ (0 ≤ c.2.1 ∧ c.2.1 ≤ 100000) → storeB c = false) := store_no2
  have NO3 : Hid (¬ c.2.2.length ≤ 30 → storeB c = false) := store_no3
  have NO4 : Hid (∀ j, j < c.2.2.length → rowB c.2.1 c.2.2 j = false → storeB c = false) := fun j hj h => store_no4 hj h
  have NO5 : Hid (¬ sizesL c.2.2 ≤ c.1 → storeB c = false) := store_no5
  have YES : Hid ((1 ≤ c.1 ∧ c.1 ≤ 100000) → (0 ≤ c.2.1 ∧ c.2.1 ≤ 100000) → c.2.2.length ≤ 30 → (∀ j, j < c.2.2.length → rowB c.2.1 c.2.2 j = true) → sizesL c.2.2 ≤ c.1 → storeB c = true) := store_yes
  generalize storeB c = R at *
  rcases (Decidable.em (1 ≤ c.1 ∧ c.1 ≤ 100000)).symm with h1 | h1
  · have d1 : decide (1 ≤ c.1 ∧ c.1 ≤ 100000) = false := decide_eq_false h1
    rw [NO1.out h1]
    go_enter Try.func40, Try.ntmps40
    repeat (first | (go_at_call 74; refine (sInG _ _ _ _).mono ?_; rintro e w3 ⟨rfl, hw3⟩; rw [hw3]; clear hw3 w3; (first | rw [d1]); dsimp only) | go_values | go_skip | go_guarded | go_step | go_upon)
    go_ret
    exact ⟨rfl, (But.refl _ _ _).alloc _⟩
  have d1 : decide (1 ≤ c.1 ∧ c.1 ≤ 100000) = true := decide_eq_true h1
  rcases (Decidable.em (0 ≤ c.2.1 ∧ c.2.1 ≤ 100000)).symm with h2 | h2
  · have d2 : decide (0 ≤ c.2.1 ∧ c.2.1 ≤ 100000) = false := decide_eq_false h2
    rw [NO2.out h2]
    go_enter Try.func40, Try.ntmps40
    repeat (first | (go_at_call 74; refine (sInG _ _ _ _).mono ?_; rintro e w3 ⟨rfl, hw3⟩; rw [hw3]; clear hw3 w3; (first | rw [d1] | rw [d2]); dsimp only) | go_values | go_skip | go_guarded | go_step | go_upon)
    go_ret
    exact ⟨rfl, (But.refl _ _ _).alloc _⟩
  have d2 : decide (0 ≤ c.2.1 ∧ c.2.1 ≤ 100000) = true := decide_eq_true h2
  rcases (Decidable.em (c.2.2.length ≤ 30)).symm with h3 | h3
  · have d3 : decide (30 < (c.2.2.length : Int)) = true := by simp; omega
    rw [NO3.out h3]
    go_enter Try.func40, Try.ntmps40
    repeat (first | (go_at_call 74; refine (sInG _ _ _ _).mono ?_; rintro e w3 ⟨rfl, hw3⟩; rw [hw3]; clear hw3 w3; (first | rw [d1] | rw [d2]); dsimp only) | go_values | go_skip | go_guarded | go_step | go_upon)
    go_ret
    exact ⟨rfl, (But.refl _ _ _).alloc _⟩
  have d3 : decide (30 < (c.2.2.length : Int)) = false := by simp; omega
  have H12 : Hid ((1 ≤ c.1 ∧ c.1 ≤ 100000) ∧ (0 ≤ c.2.1 ∧ c.2.1 ≤ 100000)) := ⟨h1, h2⟩
  go_enter Try.func40, Try.ntmps40
  repeat (first | (go_at_call 74; refine (sInG _ _ _ _).mono ?_; rintro e w3 ⟨rfl, hw3⟩; rw [hw3]; clear hw3 w3; (first | rw [d1] | rw [d2]); dsimp only) | go_values | go_skip | go_guarded | go_step | go_upon)
  clear d1 d2 d3 h1 h2
  have L0 := Loc.new w [.int .i64 c.1, .int .i64 c.2.1, .slice ao c.2.2.length cap] 33
  go_loopw [26] (fun i wr => ∃ (k : Nat), k ≤ c.2.2.length ∧ i = .int .i64 k ∧ Hid (∀ j, j < k → rowB c.2.1 c.2.2 j = true) ∧ Hid (∀ j r, j < k → c.2.2[j]? = some r → 1 ≤ r.2.1 ∧ r.2.1 ≤ 100000) ∧ Loc wr (w.heap.size) [.int .i64 c.1, .int .i64 c.2.1, .slice ao c.2.2.length cap] ∧ Kept w wr) (fun i _ => c.2.2.length - (intOf i).toNat)
  case atStart => exact ⟨0, by omega, rfl, fun j hj => by omega, fun j r hj => by omega, L0, (But.refl _ _ _).alloc _⟩
  case round =>
    obtain ⟨k, hk, rfl, hok, hsz, Lc, hkp⟩ := hrel
    clear L0
    by_cases hlt : k < c.2.2.length
    · obtain ⟨d, hd⟩ : ∃ p, c.2.2[k]? = some p := ⟨_, List.getElem?_eq_getElem hlt⟩
      obtain ⟨b, o, cap1, e, c0, c1, c2, c3⟩ := resident_get (hr.kept hkp) hd
      cases e
      have hnl : d.1.size ≤ 1048576 := HSZ.out d (List.mem_of_getElem? hd)
      have HRW : Hid (rowB c.2.1 c.2.2 k = (decide (ResP c.2.1 d) && beforeB c.2.2 k d.1 && !alikeB (c.2.2.take k) d.2.2.2)) := row_eq hd
      have HP : Hid (c.2.2[k]? = some d) := hd
      have HK : Hid (Kept w wr) := hkp
      have NJ : Hid (rowB c.2.1 c.2.2 k = false → R = false) := fun h => NO4.out k hlt h
      have hva : ResidentAt wr (.slice (some ⟨b, o, none⟩) c.2.2.length cap) c.2.2 := hr.kept hkp
      have HVA : Hid (ResidentAt wr (.slice (some ⟨b, o, none⟩) c.2.2.length cap) c.2.2) := hva
      have HTK : Hid (ResidentAt wr (.slice (some ⟨b, o, none⟩) k cap) (c.2.2.take k)) := row_take hva (by omega)
      have HCAP : (k : Int) ≤ (cap : Int) := by omega
      have HCAP2 : k ≤ cap := by omega
      obtain ⟨y0, y1, y2, y3⟩ := d
      dsimp only at c0 c1 c2 c3 hnl HRW
      have a0 := Lc.cell 0 rfl
      have a1 := Lc.cell 1 rfl
      have a2 := Lc.cell 2 rfl
      have al := Lc.lt
      have z0 : (0 : Int) ≤ (k : Int) := by omega
      have z1 : (k : Int) < (c.2.2.length : Int) := by omega
      clear hd hkp hva
      have LX := Loc.new wr [.string y0, .int .i64 y1, .int .i64 y2, .int .i64 y3] 39
      repeat (go_not_at_region 6; first | go_values | go_skip | go_guarded | go_step | go_upon)
      refine forgetX (fun W6 => Kept wr W6 ∧ Loc W6 wr.heap.size [.string y0, .int .i64 y1, .int .i64 y2, .int .i64 y3]) ⟨(But.refl _ _ _).alloc _, LX⟩ ?_
      intro W6 hW6
      obtain ⟨k6, LX⟩ := hW6
      have L6 := Lc.kept k6
      clear a0 a1 a2 al c0 c1 c2 c3
      have a0 := L6.cell 0 rfl
      have a1 := L6.cell 1 rfl
      have a2 := L6.cell 2 rfl
      have al := L6.lt
      have x0 := LX.cell 0 rfl
      have x1 := LX.cell 1 rfl
      have x2 := LX.cell 2 rfl
      have x3 := LX.cell 3 rfl
      have xl := LX.lt
      have HK6 : Hid (Kept w W6) := HK.out.trans k6
      have HL6 : Hid (Loc W6 w.heap.size [.int .i64 c.1, .int .i64 c.2.1, .slice (some ⟨b, o, none⟩) c.2.2.length cap]) := L6
      have HLX : Hid (Loc W6 wr.heap.size [.string y0, .int .i64 y1, .int .i64 y2, .int .i64 y3]) := LX
      have HV6 : Hid (ResidentAt W6 (.slice (some ⟨b, o, none⟩) c.2.2.length cap) c.2.2) := HVA.out.kept k6
      have HT6 : Hid (ResidentAt W6 (.slice (some ⟨b, o, none⟩) k cap) (c.2.2.take k)) := HTK.out.kept k6
      have AN : Hid (∀ W, Calls Try.prog 73 #[.string y0] W fun e w' => e = .returned (.bool (nameB y0)) ∧ w' = W) := fun W => sname y0 W hnl
      have A1 : Hid (∀ W, Calls Try.prog 74 #[.int .i64 y1, .int .i64 1, .int .i64 100000] W fun e w' => e = .returned (.bool (decide (1 ≤ y1 ∧ y1 ≤ 100000))) ∧ w' = W) := fun W => sInG _ _ _ W
      have A2 : Hid (∀ W, Calls Try.prog 74 #[.int .i64 y2, .int .i64 0, .int .i64 1000] W fun e w' => e = .returned (.bool (decide (0 ≤ y2 ∧ y2 ≤ 1000))) ∧ w' = W) := fun W => sInG _ _ _ W
      have A3 : Hid (∀ W, Calls Try.prog 74 #[.int .i64 y3, .int .i64 0, .int .i64 c.2.1] W fun e w' => e = .returned (.bool (decide (0 ≤ y3 ∧ y3 ≤ c.2.1))) ∧ w' = W) := fun W => sInG _ _ _ W
      have NR : Hid (¬ ResP c.2.1 (y0, y1, y2, y3) → R = false) := fun h => NJ.out (by rw [HRW.out, decide_eq_false h]; rfl)
      clear k6 L6 LX Lc HTK HK HVA
      cases q1 : nameB y0 with
      | false =>
        have hR := NR.out (fun h => by have := h.1; dsimp only at this; rw [q1] at this; cases this)
        subst hR
        rw [q1] at AN
        repeat (first | go_values | go_skip | go_guarded | go_step | go_upon)
        refine wp_region_kept (by kernel_rfl) (by kernel_rfl) ?_
        have hne := kw_some W6
        have hcc := KW.cell_eq W6
        have hcf := fun (x : KW W6) (b o : Nat) (hb : b < W6.heap.size) => x.k.frozen_eq b o hb
        repeat (first | (go_big_quiet_step (first | (go_at_call 73; with_reducible exact kw_same (AN.out _)) | (go_at_call 74; with_reducible exact kw_same (A1.out _)) | (go_at_call 74; with_reducible exact kw_same (A2.out _)) | (go_at_call 74; with_reducible exact kw_same (A3.out _)))) | (go_big_quiet_want; go_big_quiet_op; refine ⟨_, fun _ => (by with_reducible rfl), ?_⟩; go_big_quiet_on))
        refine wpQuiet_nil ?_
        rintro w5 ⟨⟨w8, k5⟩, h9⟩
        change w5 = w8 at h9
        subst h9
        clear hcc hne hcf
        repeat (first | go_values | go_skip | go_guarded | go_step | go_upon)
        go_ret
        exact ⟨rfl, HK6.out.trans k5⟩
      | true =>
        rw [q1] at AN
        rcases (Decidable.em (1 ≤ y1 ∧ y1 ≤ 100000)).symm with h1 | h1
        · have hR := NR.out (fun h => h1 h.2.1)
          subst hR
          rw [decide_eq_false h1] at A1
          clear h1
          repeat (first | go_values | go_skip | go_guarded | go_step | go_upon)
          refine wp_region_kept (by kernel_rfl) (by kernel_rfl) ?_
          have hne := kw_some W6
          have hcc := KW.cell_eq W6
          have hcf := fun (x : KW W6) (b o : Nat) (hb : b < W6.heap.size) => x.k.frozen_eq b o hb
          repeat (first | (go_big_quiet_step (first | (go_at_call 73; with_reducible exact kw_same (AN.out _)) | (go_at_call 74; with_reducible exact kw_same (A1.out _)) | (go_at_call 74; with_reducible exact kw_same (A2.out _)) | (go_at_call 74; with_reducible exact kw_same (A3.out _)))) | (go_big_quiet_want; go_big_quiet_op; refine ⟨_, fun _ => (by with_reducible rfl), ?_⟩; go_big_quiet_on))
          refine wpQuiet_nil ?_
          rintro w5 ⟨⟨w8, k5⟩, h9⟩
          change w5 = w8 at h9
          subst h9
          clear hcc hne hcf
          repeat (first | go_values | go_skip | go_guarded | go_step | go_upon)
          go_ret
          exact ⟨rfl, HK6.out.trans k5⟩
        rw [decide_eq_true h1] at A1
        rcases (Decidable.em (0 ≤ y2 ∧ y2 ≤ 1000)).symm with h2 | h2
        · have hR := NR.out (fun h => h2 h.2.2.1)
          subst hR
          rw [decide_eq_false h2] at A2
          clear h2
          repeat (first | go_values | go_skip | go_guarded | go_step | go_upon)
          refine wp_region_kept (by kernel_rfl) (by kernel_rfl) ?_
          have hne := kw_some W6
          have hcc := KW.cell_eq W6
          have hcf := fun (x : KW W6) (b o : Nat) (hb : b < W6.heap.size) => x.k.frozen_eq b o hb
          repeat (first | (go_big_quiet_step (first | (go_at_call 73; with_reducible exact kw_same (AN.out _)) | (go_at_call 74; with_reducible exact kw_same (A1.out _)) | (go_at_call 74; with_reducible exact kw_same (A2.out _)) | (go_at_call 74; with_reducible exact kw_same (A3.out _)))) | (go_big_quiet_want; go_big_quiet_op; refine ⟨_, fun _ => (by with_reducible rfl), ?_⟩; go_big_quiet_on))
          refine wpQuiet_nil ?_
          rintro w5 ⟨⟨w8, k5⟩, h9⟩
          change w5 = w8 at h9
          subst h9
          clear hcc hne hcf
          repeat (first | go_values | go_skip | go_guarded | go_step | go_upon)
          go_ret
          exact ⟨rfl, HK6.out.trans k5⟩
        rw [decide_eq_true h2] at A2
        rcases (Decidable.em (0 ≤ y3 ∧ y3 ≤ c.2.1)).symm with h4 | h4
        · have hR := NR.out (fun h => h4 h.2.2.2)
          subst hR
          rw [decide_eq_false h4] at A3
          clear h4
          repeat (first | go_values | go_skip | go_guarded | go_step | go_upon)
          refine wp_region_kept (by kernel_rfl) (by kernel_rfl) ?_
          have hne := kw_some W6
          have hcc := KW.cell_eq W6
          have hcf := fun (x : KW W6) (b o : Nat) (hb : b < W6.heap.size) => x.k.frozen_eq b o hb
          repeat (first | (go_big_quiet_step (first | (go_at_call 73; with_reducible exact kw_same (AN.out _)) | (go_at_call 74; with_reducible exact kw_same (A1.out _)) | (go_at_call 74; with_reducible exact kw_same (A2.out _)) | (go_at_call 74; with_reducible exact kw_same (A3.out _)))) | (go_big_quiet_want; go_big_quiet_op; refine ⟨_, fun _ => (by with_reducible rfl), ?_⟩; go_big_quiet_on))
          refine wpQuiet_nil ?_
          rintro w5 ⟨⟨w8, k5⟩, h9⟩
          change w5 = w8 at h9
          subst h9
          clear hcc hne hcf
          repeat (first | go_values | go_skip | go_guarded | go_step | go_upon)
          go_ret
          exact ⟨rfl, HK6.out.trans k5⟩
        rw [decide_eq_true h4] at A3
        have HRS : Hid (1 ≤ y1 ∧ y1 ≤ 100000) := h1
        have HY3 : Hid (0 ≤ y3 ∧ y3 ≤ c.2.1) := h4
        have HR1 : Hid (rowB c.2.1 c.2.2 k = (beforeB c.2.2 k y0 && !alikeB (c.2.2.take k) y3)) := by
          show _ = _
          rw [HRW.out, decide_eq_true (show ResP c.2.1 (y0, y1, y2, y3) from ⟨q1, h1, h2, h4⟩)]
          rfl
        clear HRW NR h1 h2 h4
        by_cases h0 : 0 < k
        · obtain ⟨j', hj'⟩ : ∃ j', k = j' + 1 := ⟨k - 1, by omega⟩
          obtain ⟨a, hq⟩ : ∃ r, c.2.2[j']? = some r := ⟨_, List.getElem?_eq_getElem (by omega)⟩
          obtain ⟨bb2, o2, cap2, e2, r0, r1, r2, r3⟩ := resident_get HV6.out hq
          cases e2
          have HO : Hid (beforeB c.2.2 k y0 = Op.bytesLess a.1.toList y0.toList) := before_next hj' hq
          obtain ⟨g, ga, gb, gc⟩ := a
          dsimp only at r0 r1 r2 r3 HO
          have rl := World.block_lt_of_cell? _ _ r0
          have dj : decide (0 < k) = true := decide_eq_true h0
          have dk : decide ((0 : Int) < (k : Int)) = true := by simp; omega
          have ej : IntKind.i64.wrap ((k : Int) - 1) = (j' : Int) := by rw [IntWalk.i64_in _ (by omega)]; omega
          have y1' : (0 : Int) ≤ (j' : Int) := by omega
          have y2' : (j' : Int) < (c.2.2.length : Int) := by omega
          clear hj' hq r1 r2 r3
          cases q3 : Op.bytesLess g.toList y0.toList with
          | false =>
            have hR := NJ.out (by rw [HR1.out, HO.out, q3]; rfl)
            subst hR
            clear HR1 HO
            repeat (first | go_values | go_skip | go_guarded | go_step | go_upon)
            refine wp_region_kept (by kernel_rfl) (by kernel_rfl) ?_
            have hne := kw_some W6
            have hcc := KW.cell_eq W6
            have hcf := fun (x : KW W6) (b o : Nat) (hb : b < W6.heap.size) => x.k.frozen_eq b o hb
            repeat (first | (go_big_quiet_step (first | (go_at_call 73; with_reducible exact kw_same (AN.out _)) | (go_at_call 74; with_reducible exact kw_same (A1.out _)) | (go_at_call 74; with_reducible exact kw_same (A2.out _)) | (go_at_call 74; with_reducible exact kw_same (A3.out _)))) | (go_big_quiet_want; go_big_quiet_op; refine ⟨_, fun _ => (by with_reducible rfl), ?_⟩; go_big_quiet_on))
            refine wpQuiet_nil ?_
            rintro w5 ⟨⟨w8, k5⟩, h9⟩
            change w5 = w8 at h9
            subst h9
            clear hcc hne hcf
            repeat (first | go_values | go_skip | go_guarded | go_step | go_upon)
            go_ret
            exact ⟨rfl, HK6.out.trans k5⟩
          | true =>
            have HR2 : Hid (rowB c.2.1 c.2.2 k = !alikeB (c.2.2.take k) y3) := by show _ = _; rw [HR1.out, HO.out, q3]; rfl
            clear HR1 HO
            repeat (first | go_values | go_skip | go_guarded | go_step | go_upon)
            refine wp_region_kept (by kernel_rfl) (by kernel_rfl) ?_
            have hne := kw_some W6
            have hcc := KW.cell_eq W6
            have hcf := fun (x : KW W6) (b o : Nat) (hb : b < W6.heap.size) => x.k.frozen_eq b o hb
            repeat (first | (go_big_quiet_step (first | (go_at_call 73; with_reducible exact kw_same (AN.out _)) | (go_at_call 74; with_reducible exact kw_same (A1.out _)) | (go_at_call 74; with_reducible exact kw_same (A2.out _)) | (go_at_call 74; with_reducible exact kw_same (A3.out _)))) | (go_big_quiet_want; go_big_quiet_op; refine ⟨_, fun _ => (by with_reducible rfl), ?_⟩; go_big_quiet_on))
            refine wpQuiet_nil ?_
            rintro w5 ⟨⟨w8, k5⟩, h9⟩
            change w5 = w8 at h9
            subst h9
            clear hcc hne hcf
            have hL5 := HL6.out.kept k5
            have hX5 := HLX.out.kept k5
            clear a0 a1 a2 al x0 x1 x2 x3 xl
            have a0 := hL5.cell 0 rfl
            have a1 := hL5.cell 1 rfl
            have a2 := hL5.cell 2 rfl
            have al := hL5.lt
            have x0 := hX5.cell 0 rfl
            have x3 := hX5.cell 3 rfl
            have xl := hX5.lt
            have HL5 : Hid (Loc w5 w.heap.size [.int .i64 c.1, .int .i64 c.2.1, .slice (some ⟨b, o, none⟩) c.2.2.length cap]) := hL5
            have HX5 : Hid _ := hX5
            clear hL5 hX5
            repeat (first | go_values | go_skip | go_guarded | go_step | go_upon)
            have HK5 : Hid (Kept w w5) := HK6.out.trans k5
            have HV5 : Hid (ResidentAt w5 (.slice (some ⟨b, o, none⟩) c.2.2.length cap) c.2.2) := HV6.out.kept k5
            clear k5 a0 a1 a2 al
            go_loopw [76] (fun i w2 => ∃ (m : Nat), m ≤ k ∧ i = .int .i64 m ∧ Hid (∀ j r, j < m → c.2.2[j]? = some r → y3 ≠ 0 → r.2.2.2 ≠ y3) ∧ Kept w5 w2) (fun i _ => k - (intOf i).toNat)
            case atStart => exact ⟨0, by omega, rfl, fun j r hj => by omega, But.refl _ _ _⟩
            case round =>
              obtain ⟨m, hm, rfl, HB, hk2⟩ := hrel
              by_cases hmk : m < k
              · obtain ⟨p, hp⟩ : ∃ r, c.2.2[m]? = some r := ⟨_, List.getElem?_eq_getElem (by omega)⟩
                obtain ⟨bb3, o3, cap3, e3, p0, p1, p2, p3⟩ := resident_get (HV5.out.kept hk2) hp
                cases e3
                have HPM : Hid (c.2.2[m]? = some p) := hp
                obtain ⟨g0, g1, g2, g3⟩ := p
                dsimp only at p0 p1 p2 p3
                have x3 := Kept.cell hk2 x3
                have xl := Nat.lt_of_lt_of_le xl hk2.size
                have HK2 : Hid _ := hk2
                have m0 : (0 : Int) ≤ (m : Int) := by omega
                have m1 : (m : Int) < (k : Int) := by omega
                clear hp hk2 x0
                by_cases hu : 0 < y3
                · have du : decide (0 < y3) = true := decide_eq_true hu
                  by_cases hg : g3 = y3
                  · have hR := NJ.out (by
                      rw [HR2.out]
                      have : alikeB (c.2.2.take k) y3 = true := by
                        unfold alikeB
                        rw [decide_eq_true (show y3 ≠ 0 by omega), Bool.true_and, List.any_eq_true]
                        refine ⟨_, List.mem_of_getElem? (i := m) (by rw [List.getElem?_take_of_lt hmk]; exact HPM.out), ?_⟩
                        simp [hg]
                      rw [this]; rfl)
                    subst hR
                    have dg : (g3 == y3) = true := by simp [hg]
                    clear hg
                    repeat (first | go_values | go_skip | go_guarded | go_step | go_upon)
                    go_ret
                    exact ⟨rfl, HK5.out.trans (HK2.out.alloc _)⟩
                  · have dg : (g3 == y3) = false := by simpa using hg
                    have HNG : Hid (g3 ≠ y3) := hg
                    clear hg
                    repeat (first | go_values | go_skip | go_guarded | go_step | go_upon)
                    refine ⟨⟨m + 1, by omega, by go_num, fun j r hj hr2 hy => ?_, HK2.out.alloc _⟩, by simp [intOf]; omega⟩
                    by_cases e : j = m
                    · subst e
                      rw [HPM.out] at hr2
                      cases hr2
                      exact HNG.out
                    · exact HB.out j r (by omega) hr2 hy
                · have du : decide (0 < y3) = false := decide_eq_false hu
                  have HY0 : Hid (y3 = 0) := by show _ = _; have := HY3.out; omega
                  clear hu
                  repeat (first | go_values | go_skip | go_guarded | go_step | go_upon)
                  exact ⟨⟨m + 1, by omega, by go_num, fun j r hj hr2 hy => absurd HY0.out hy, HK2.out.alloc _⟩, by simp [intOf]; omega⟩
              · have hmk2 : m = k := by omega
                subst hmk2
                have HRT : Hid (rowB c.2.1 c.2.2 m = true) := by
                  show _ = _
                  rw [HR2.out]
                  have : alikeB (c.2.2.take m) y3 = false := by
                    unfold alikeB
                    by_cases hy : y3 = 0
                    · rw [hy]; rfl
                    · rw [decide_eq_true hy, Bool.true_and, List.any_eq_false]
                      intro r hr2
                      obtain ⟨j, hj⟩ := List.mem_iff_getElem?.1 hr2
                      have hjm : j < m := by have := (List.getElem?_eq_some_iff.1 hj).1; rw [List.length_take] at this; omega
                      rw [List.getElem?_take_of_lt hjm] at hj
                      have := HB.out j r hjm hj hy
                      simpa using this
                  rw [this]; rfl
                have HL2 : Hid (Loc wr w.heap.size [.int .i64 c.1, .int .i64 c.2.1, .slice (some ⟨b, o, none⟩) c.2.2.length cap]) := HL5.out.kept hk2
                have HK2 : Hid (Kept w wr) := HK5.out.trans hk2
                clear hk2 x0 x3 xl HB hm hmk
                try clear r0 rl y1' y2' ej q3
                repeat (first | (with_reducible refine then_normal ?_) | (with_reducible refine then_exit ?_) | (with_reducible refine block_hit ?_) | (with_reducible refine block_normal ?_) | go_values | go_skip | go_guarded | go_step | go_upon)
                refine ⟨⟨m + 1, hlt, by go_num, all_more hok.out HRT.out, fun j r hj hr2 => ?_, HL2.out, HK2.out⟩, by simp [intOf]; omega⟩
                by_cases e : j = m
                · subst e
                  rw [HP.out] at hr2
                  cases hr2
                  exact HRS.out
                · exact hsz.out j r (by omega) hr2
        · have hk0 : k = 0 := by omega
          have HR2 : Hid (rowB c.2.1 c.2.2 k = !alikeB (c.2.2.take k) y3) := by show _ = _; rw [HR1.out, before_first hk0]; rfl
          have dj : decide (0 < k) = false := decide_eq_false h0
          have dk : decide ((0 : Int) < (k : Int)) = false := by simp; omega
          clear HR1 h0 hk0
          repeat (first | go_values | go_skip | go_guarded | go_step | go_upon)
          refine wp_region_kept (by kernel_rfl) (by kernel_rfl) ?_
          have hne := kw_some W6
          have hcc := KW.cell_eq W6
          have hcf := fun (x : KW W6) (b o : Nat) (hb : b < W6.heap.size) => x.k.frozen_eq b o hb
          repeat (first | (go_big_quiet_step (first | (go_at_call 73; with_reducible exact kw_same (AN.out _)) | (go_at_call 74; with_reducible exact kw_same (A1.out _)) | (go_at_call 74; with_reducible exact kw_same (A2.out _)) | (go_at_call 74; with_reducible exact kw_same (A3.out _)))) | (go_big_quiet_want; go_big_quiet_op; refine ⟨_, fun _ => (by with_reducible rfl), ?_⟩; go_big_quiet_on))
          refine wpQuiet_nil ?_
          rintro w5 ⟨⟨w8, k5⟩, h9⟩
          change w5 = w8 at h9
          subst h9
          clear hcc hne hcf
          have hL5 := HL6.out.kept k5
          have hX5 := HLX.out.kept k5
          clear a0 a1 a2 al x0 x1 x2 x3 xl
          have a0 := hL5.cell 0 rfl
          have a1 := hL5.cell 1 rfl
          have a2 := hL5.cell 2 rfl
          have al := hL5.lt
          have x0 := hX5.cell 0 rfl
          have x3 := hX5.cell 3 rfl
          have xl := hX5.lt
          have HL5 : Hid (Loc w5 w.heap.size [.int .i64 c.1, .int .i64 c.2.1, .slice (some ⟨b, o, none⟩) c.2.2.length cap]) := hL5
          have HX5 : Hid _ := hX5
          clear hL5 hX5
          repeat (first | go_values | go_skip | go_guarded | go_step | go_upon)
          have HK5 : Hid (Kept w w5) := HK6.out.trans k5
          have HV5 : Hid (ResidentAt w5 (.slice (some ⟨b, o, none⟩) c.2.2.length cap) c.2.2) := HV6.out.kept k5
          clear k5 a0 a1 a2 al
          go_loopw [76] (fun i w2 => ∃ (m : Nat), m ≤ k ∧ i = .int .i64 m ∧ Hid (∀ j r, j < m → c.2.2[j]? = some r → y3 ≠ 0 → r.2.2.2 ≠ y3) ∧ Kept w5 w2) (fun i _ => k - (intOf i).toNat)
          case atStart => exact ⟨0, by omega, rfl, fun j r hj => by omega, But.refl _ _ _⟩
          case round =>
            obtain ⟨m, hm, rfl, HB, hk2⟩ := hrel
            by_cases hmk : m < k
            · obtain ⟨p, hp⟩ : ∃ r, c.2.2[m]? = some r := ⟨_, List.getElem?_eq_getElem (by omega)⟩
              obtain ⟨bb3, o3, cap3, e3, p0, p1, p2, p3⟩ := resident_get (HV5.out.kept hk2) hp
              cases e3
              have HPM : Hid (c.2.2[m]? = some p) := hp
              obtain ⟨g0, g1, g2, g3⟩ := p
              dsimp only at p0 p1 p2 p3
              have x3 := Kept.cell hk2 x3
              have xl := Nat.lt_of_lt_of_le xl hk2.size
              have HK2 : Hid _ := hk2
              have m0 : (0 : Int) ≤ (m : Int) := by omega
              have m1 : (m : Int) < (k : Int) := by omega
              clear hp hk2 x0
              by_cases hu : 0 < y3
              · have du : decide (0 < y3) = true := decide_eq_true hu
                by_cases hg : g3 = y3
                · have hR := NJ.out (by
                    rw [HR2.out]
                    have : alikeB (c.2.2.take k) y3 = true := by
                      unfold alikeB
                      rw [decide_eq_true (show y3 ≠ 0 by omega), Bool.true_and, List.any_eq_true]
                      refine ⟨_, List.mem_of_getElem? (i := m) (by rw [List.getElem?_take_of_lt hmk]; exact HPM.out), ?_⟩
                      simp [hg]
                    rw [this]; rfl)
                  subst hR
                  have dg : (g3 == y3) = true := by simp [hg]
                  clear hg
                  repeat (first | go_values | go_skip | go_guarded | go_step | go_upon)
                  go_ret
                  exact ⟨rfl, HK5.out.trans (HK2.out.alloc _)⟩
                · have dg : (g3 == y3) = false := by simpa using hg
                  have HNG : Hid (g3 ≠ y3) := hg
                  clear hg
                  repeat (first | go_values | go_skip | go_guarded | go_step | go_upon)
                  refine ⟨⟨m + 1, by omega, by go_num, fun j r hj hr2 hy => ?_, HK2.out.alloc _⟩, by simp [intOf]; omega⟩
                  by_cases e : j = m
                  · subst e
                    rw [HPM.out] at hr2
                    cases hr2
                    exact HNG.out
                  · exact HB.out j r (by omega) hr2 hy
              · have du : decide (0 < y3) = false := decide_eq_false hu
                have HY0 : Hid (y3 = 0) := by show _ = _; have := HY3.out; omega
                clear hu
                repeat (first | go_values | go_skip | go_guarded | go_step | go_upon)
                exact ⟨⟨m + 1, by omega, by go_num, fun j r hj hr2 hy => absurd HY0.out hy, HK2.out.alloc _⟩, by simp [intOf]; omega⟩
            · have hmk2 : m = k := by omega
              subst hmk2
              have HRT : Hid (rowB c.2.1 c.2.2 m = true) := by
                show _ = _
                rw [HR2.out]
                have : alikeB (c.2.2.take m) y3 = false := by
                  unfold alikeB
                  by_cases hy : y3 = 0
                  · rw [hy]; rfl
                  · rw [decide_eq_true hy, Bool.true_and, List.any_eq_false]
                    intro r hr2
                    obtain ⟨j, hj⟩ := List.mem_iff_getElem?.1 hr2
                    have hjm : j < m := by have := (List.getElem?_eq_some_iff.1 hj).1; rw [List.length_take] at this; omega
                    rw [List.getElem?_take_of_lt hjm] at hj
                    have := HB.out j r hjm hj hy
                    simpa using this
                rw [this]; rfl
              have HL2 : Hid (Loc wr w.heap.size [.int .i64 c.1, .int .i64 c.2.1, .slice (some ⟨b, o, none⟩) c.2.2.length cap]) := HL5.out.kept hk2
              have HK2 : Hid (Kept w wr) := HK5.out.trans hk2
              clear hk2 x0 x3 xl HB hm hmk
              try clear r0 rl y1' y2' ej q3
              repeat (first | (with_reducible refine then_normal ?_) | (with_reducible refine then_exit ?_) | (with_reducible refine block_hit ?_) | (with_reducible refine block_normal ?_) | go_values | go_skip | go_guarded | go_step | go_upon)
              refine ⟨⟨m + 1, hlt, by go_num, all_more hok.out HRT.out, fun j r hj hr2 => ?_, HL2.out, HK2.out⟩, by simp [intOf]; omega⟩
              by_cases e : j = m
              · subst e
                rw [HP.out] at hr2
                cases hr2
                exact HRS.out
              · exact hsz.out j r (by omega) hr2
    · have hke : k = c.2.2.length := by omega
      subst hke
      obtain ⟨h1, h2⟩ := H12.out
      have HZ : Hid (∀ r ∈ c.2.2, 1 ≤ r.2.1 ∧ r.2.1 ≤ 100000) := fun r hr2 => by
        obtain ⟨j, hj⟩ := List.mem_iff_getElem?.1 hr2
        exact hsz.out j r (List.getElem?_eq_some_iff.1 hj).1 hj
      have hRR : R = decide (sizesL c.2.2 ≤ c.1) := by
        rcases (Decidable.em (sizesL c.2.2 ≤ c.1)).symm with h9 | h9
        · rw [NO5.out h9, decide_eq_false h9]
        · rw [YES.out h1 h2 h3 hok.out h9, decide_eq_true h9]
      have HRR : Hid (R = decide (sizesL c.2.2 ≤ c.1)) := hRR
      have a0 := Lc.cell 0 rfl
      have a1 := Lc.cell 1 rfl
      have a2 := Lc.cell 2 rfl
      have al := Lc.lt
      have AZ : Hid (∀ (x : KW wr), Calls Try.prog 75 #[.agg #[.int .i64 c.1, .int .i64 c.2.1, .slice ao c.2.2.length cap]] x.w fun e w' => e = .returned (.int .i64 (sizesL c.2.2)) ∧ Kept x.w w') := fun x => ssizes c _ x.w ⟨_, rfl, hr.kept (hkp.trans x.k)⟩ h3 HZ.out
      generalize sizesL c.2.2 = Z at *
      have HK : Hid (Kept w wr) := hkp
      clear h1 h2 hRR Lc hkp
      repeat (first | go_values | go_skip | go_guarded | go_step | go_upon)
      refine wp_region_kept (by kernel_rfl) (by kernel_rfl) ?_
      have hne := kw_some wr
      have hcc := KW.cell_eq wr
      have hcf := fun (x : KW wr) (b o : Nat) (hb : b < wr.heap.size) => x.k.frozen_eq b o hb
      repeat (first | (go_big_quiet_step (first | (go_at_call 75; with_reducible exact kw_call (AZ.out _)))) | (go_big_quiet_want; go_big_quiet_op; refine ⟨_, fun _ => (by with_reducible rfl), ?_⟩; go_big_quiet_on))
      refine wpQuiet_nil ?_
      rintro w5 ⟨⟨w8, k5⟩, h9⟩
      change w5 = w8 at h9
      subst h9
      clear hcc hne hcf
      repeat (first | go_values | go_skip | go_guarded | go_step | go_upon)
      go_ret
      exact ⟨ret_boolG HRR.out.symm, HK.out.trans k5⟩

end Go.Proofs.Ytipgffikmnebnaa
