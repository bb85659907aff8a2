/-
  Which stores are good: the program.
-/
import Derived.Test.YtipgffikmnebnaaUse21
import Derived.Deep.Cut
import Derived.BigQuiet
import Derived.WalkLawsBesides
namespace Go.Proofs.Ytipgffikmnebnaa
open Go.ChangeShapes Go.WideShapes Go.ChangeAt Go.RowKit

set_option maxRecDepth 100000
set_option linter.unusedVariables false
set_option linter.unusedSimpArgs false

theorem then_exit {F : Act → World → Prop} {R : Exit → Act → World → Prop} {n : Nat} {a : Act} {w : World} (h : R (.exit n) a w) : Exit.then F R (.exit n) a w := h
theorem then_normal {F : Act → World → Prop} {R : Exit → Act → World → Prop} {a : Act} {w : World} (h : F a w) : Exit.then F R .normal a w := h
theorem block_hit {id : Nat} {Q : Exit → Act → World → Prop} {a : Act} {w : World} (h : Q .normal a w) : Exit.inBlock id Q (.exit id) a w := by
  show (if id = id then Q .normal a w else Q (.exit id) a w)
  rw [if_pos rfl]
  exact h
theorem block_normal {id : Nat} {Q : Exit → Act → World → Prop} {a : Act} {w : World} (h : Q .normal a w) : Exit.inBlock id Q .normal a w := h
theorem row_take {w : World} {a : Option Addr} {n cap k : Nat} {l : List ResidentD} (h : ResidentAt w (.slice a n cap) l) (hk : k ≤ n) : ResidentAt w (.slice a k cap) (l.take k) := by
  obtain ⟨ao, cap', e, hc⟩ := h
  cases e
  refine ⟨a, cap, by rw [List.length_take]; congr 1; omega, fun j x hx => hc j x ?_⟩
  rw [← List.take_append_drop k l, List.flatMap_append, List.getElem?_append_left (List.getElem?_eq_some_iff.1 hx).1]
  exact hx
theorem res_caps {w : World} {lo hi : Nat} {a : Option Addr} {n cap : Nat} {l : List ResidentD} (h : ResidentO w lo hi (.slice a n cap) l) : l.length ≤ cap ∧ cap ≤ 9223372036854775807 := by
  rcases h.1.2 with ⟨hv, h0⟩ | ⟨g, cap', cur, hv, _, _, h1, h2, _⟩
  · cases hv
    exact ⟨by omega, by omega⟩
  · cases hv
    unfold maxLen at h2
    exact ⟨h1, by omega⟩
theorem forgetX {P : Program} {c : Go.Code} {Q : Exit → Act → World → Prop} {a : Act} {W : World} (F : World → Prop) (hF : F W) (h : ∀ W', F W' → Code.wp P c Q a W') : Code.wp P c Q a W := h W hF

set_option maxHeartbeats 8000000 in
theorem igood (c : StoreD) (v : Value) (lo hi : Nat) (w : World) (hv0 : StoreO w lo hi v c) (hn : c.2.2.length ≤ 1048576) (hs : ∀ r ∈ c.2.2, r.1.size ≤ 1048576) :
    Calls Try.prog 42 #[v] w fun e w' => e = .returned (.bool (storeB c)) ∧ Kept w w' := by
  obtain ⟨ao, cap, hfm⟩ := hv0.form
  subst hfm
  have hr := hv0.row.at
  have hcap := res_caps hv0.row
  clear hv0
  have HSZ : Hid (∀ r ∈ c.2.2, r.1.size ≤ 1048576) := hs
  clear hs
  have NO1 : Hid (¬ (1 ≤ c.1 ∧ c.1 ≤ 100000) → storeB c = false) := store_no1
  have NO2 : Hid (¬ (0 ≤ c.2.1 ∧ c.2.1 ≤ 100000) → storeB c = false) := store_no2
  have NO3 : Hid (¬ c.2.2.length ≤ 30 → storeB c = false) := store_no3
  have NO4 : Hid (∀ j, j < c.2.2.length → rowB c.2.1 c.2.2 j = false → storeB c = false) := fun j hj h => store_no4 hj h
  have NO5 : Hid (¬ sizesL c.2.2 ≤ c.1 → storeB c = false) := store_no5
  have YES : Hid ((1 ≤ c.1 ∧ c.1 ≤ 100000) → (0 ≤ c.2.1 ∧ c.2.1 ≤ 100000) → c.2.2.length ≤ 30 → (∀ j, j < c.2.2.length → rowB c.2.1 c.2.2 j = true) → sizesL c.2.2 ≤ c.1 → storeB c = true) := store_yes
  generalize storeB c = R at *
  rcases (Decidable.em (1 ≤ c.1 ∧ c.1 ≤ 100000)).symm with h1 | h1
  · have d1 : decide (1 ≤ c.1 ∧ c.1 ≤ 100000) = false := decide_eq_false h1
    rw [NO1.out h1]
    go_enter Try.func42, Try.ntmps42
    repeat (first | (go_at_call 92; refine (ibudget _ _).mono ?_; rintro e w3 ⟨rfl, hw3⟩; rw [hw3]; clear hw3 w3; rw [d1]; dsimp only) | go_values | go_skip | go_guarded | go_step | go_upon)
    go_ret
    exact ⟨rfl, (But.refl _ _ _).alloc _⟩
  have d1 : decide (1 ≤ c.1 ∧ c.1 ≤ 100000) = true := decide_eq_true h1
  rcases (Decidable.em (0 ≤ c.2.1 ∧ c.2.1 ≤ 100000)).symm with h2 | h2
  · have d2 : decide (0 ≤ c.2.1 ∧ c.2.1 ≤ 100000) = false := decide_eq_false h2
    rw [NO2.out h2]
    go_enter Try.func42, Try.ntmps42
    repeat (first | (go_at_call 92; refine (ibudget _ _).mono ?_; rintro e w3 ⟨rfl, hw3⟩; rw [hw3]; clear hw3 w3; rw [d1]; dsimp only) | (go_at_call 93; refine (itime _ _).mono ?_; rintro e w3 ⟨rfl, hw3⟩; rw [hw3]; clear hw3 w3; rw [d2]; dsimp only) | go_values | go_skip | go_guarded | go_step | go_upon)
    go_ret
    exact ⟨rfl, (But.refl _ _ _).alloc _⟩
  have d2 : decide (0 ≤ c.2.1 ∧ c.2.1 ≤ 100000) = true := decide_eq_true h2
  rcases (Decidable.em (c.2.2.length ≤ 30)).symm with h3 | h3
  · have d3 : decide (30 < (c.2.2.length : Int)) = true := by simp; omega
    rw [NO3.out h3]
    go_enter Try.func42, Try.ntmps42
    repeat (first | (go_at_call 92; refine (ibudget _ _).mono ?_; rintro e w3 ⟨rfl, hw3⟩; rw [hw3]; clear hw3 w3; rw [d1]; dsimp only) | (go_at_call 93; refine (itime _ _).mono ?_; rintro e w3 ⟨rfl, hw3⟩; rw [hw3]; clear hw3 w3; rw [d2]; dsimp only) | go_values | go_skip | go_guarded | go_step | go_upon)
    go_ret
    exact ⟨rfl, (But.refl _ _ _).alloc _⟩
  have d3 : decide (30 < (c.2.2.length : Int)) = false := by simp; omega
  have H12 : Hid ((1 ≤ c.1 ∧ c.1 ≤ 100000) ∧ (0 ≤ c.2.1 ∧ c.2.1 ≤ 100000)) := ⟨h1, h2⟩
  go_enter Try.func42, Try.ntmps42
  repeat (first | (go_at_call 92; refine (ibudget _ _).mono ?_; rintro e w3 ⟨rfl, hw3⟩; rw [hw3]; clear hw3 w3; rw [d1]; dsimp only) | (go_at_call 93; refine (itime _ _).mono ?_; rintro e w3 ⟨rfl, hw3⟩; rw [hw3]; clear hw3 w3; rw [d2]; dsimp only) | go_values | go_skip | go_guarded | go_step | go_upon)
  clear d1 d2 d3 h1 h2
  have L0 := Loc.new w [.int .i64 c.1, .int .i64 c.2.1, .slice ao c.2.2.length cap] 33
  go_loopw [3, 25] (fun l i wr => ∃ (k : Nat) (s : ByteArray), k ≤ c.2.2.length ∧ i = .int .i64 k ∧ l = .string s ∧ Hid (∀ j, j < k → rowB c.2.1 c.2.2 j = true) ∧ Hid (k = 0 → s = ⟨#[]⟩) ∧ Hid (∀ q, 0 < k → c.2.2[k - 1]? = some q → s = q.1) ∧ Hid (∀ j r, j < k → c.2.2[j]? = some r → 1 ≤ r.2.1 ∧ r.2.1 ≤ 100000) ∧ Loc wr (w.heap.size) [.int .i64 c.1, .int .i64 c.2.1, .slice ao c.2.2.length cap] ∧ Kept w wr) (fun l i _ => c.2.2.length - (intOf i).toNat)
  case atStart => exact ⟨0, _, by omega, rfl, rfl, fun j hj => by omega, fun _ => rfl, fun q h => by omega, fun j r hj => by omega, L0, (But.refl _ _ _).alloc _⟩
  case round =>
    obtain ⟨k, s, hk, rfl, rfl, hok, hs0, hsq, hsz, Lc, hkp⟩ := hrel
    clear L0
    by_cases hlt : k < c.2.2.length
    · obtain ⟨d, hd⟩ : ∃ p, c.2.2[k]? = some p := ⟨_, List.getElem?_eq_getElem hlt⟩
      obtain ⟨b, o, cap1, e, c0, c1, c2, c3⟩ := resident_get (hr.kept hkp) hd
      cases e
      have hnl : d.1.size ≤ 1048576 := HSZ.out d (List.mem_of_getElem? hd)
      have HRW : Hid (rowB c.2.1 c.2.2 k = (decide (ResP c.2.1 d) && beforeB c.2.2 k d.1 && !alikeB (c.2.2.take k) d.2.2.2)) := row_eq hd
      have HBL : Hid (nameB d.1 = true → (beforeB c.2.2 k d.1 = true ↔ Op.bytesLess d.1.toList s.toList = false ∧ (d.1.toList == s.toList) = false)) := fun h => before_last (ck := c.2.1) hd h hs0.out hsq.out
      have HP : Hid (c.2.2[k]? = some d) := hd
      have HK : Hid (Kept w wr) := hkp
      have NJ : Hid (rowB c.2.1 c.2.2 k = false → R = false) := fun h => NO4.out k hlt h
      have hva : ResidentAt wr (.slice (some ⟨b, o, none⟩) c.2.2.length cap) c.2.2 := hr.kept hkp
      have HTK : Hid (ResidentAt wr (.slice (some ⟨b, o, none⟩) k cap) (c.2.2.take k)) := row_take hva (by omega)
      have HCAP : (k : Int) ≤ (cap : Int) := by omega
      have HCAP2 : k ≤ cap := by omega
      obtain ⟨y0, y1, y2, y3⟩ := d
      dsimp only at c0 c1 c2 c3 hnl HRW HBL
      have a0 := Lc.cell 0 rfl
      have a1 := Lc.cell 1 rfl
      have a2 := Lc.cell 2 rfl
      have al := Lc.lt
      have z0 : (0 : Int) ≤ (k : Int) := by omega
      have z1 : (k : Int) < (c.2.2.length : Int) := by omega
      clear hs0 hsq hd hkp hva
      have LX := Loc.new wr [.string y0, .int .i64 y1, .int .i64 y2, .int .i64 y3] 39
      repeat (go_not_at_region 7; first | go_values | go_skip | go_guarded | go_step | go_upon)
      refine forgetX (fun W6 => Kept wr W6 ∧ Loc W6 wr.heap.size [.string y0, .int .i64 y1, .int .i64 y2, .int .i64 y3]) ⟨(But.refl _ _ _).alloc _, LX⟩ ?_
      intro W6 hW6
      obtain ⟨k6, LX⟩ := hW6
      have L6 := Lc.kept k6
      clear a0 a1 a2 al c0 c1 c2 c3
      have a0 := L6.cell 0 rfl
      have a1 := L6.cell 1 rfl
      have a2 := L6.cell 2 rfl
      have al := L6.lt
      have x0 := LX.cell 0 rfl
      have x1 := LX.cell 1 rfl
      have x2 := LX.cell 2 rfl
      have x3 := LX.cell 3 rfl
      have xl := LX.lt
      have HK6 : Hid (Kept w W6) := HK.out.trans k6
      have HL6 : Hid (Loc W6 w.heap.size [.int .i64 c.1, .int .i64 c.2.1, .slice (some ⟨b, o, none⟩) c.2.2.length cap]) := L6
      have HT6 : Hid (ResidentAt W6 (.slice (some ⟨b, o, none⟩) k cap) (c.2.2.take k)) := HTK.out.kept k6
      obtain ⟨q2, hq2⟩ : ∃ q, decide (ResP c.2.1 (y0, y1, y2, y3)) = q := ⟨_, rfl⟩
      obtain ⟨q3, hq3⟩ : ∃ q, alikeB (c.2.2.take k) y3 = q := ⟨_, rfl⟩
      have AR : Hid (∀ W, Calls Try.prog 94 #[.agg #[.string y0, .int .i64 y1, .int .i64 y2, .int .i64 y3], .int .i64 c.2.1] W fun e w' => e = .returned (.bool q2) ∧ Kept W w') := fun W => by rw [← hq2]; exact ires y0 y1 y2 y3 c.2.1 W hnl
      have AU : Hid (∀ (x : KW W6), Calls Try.prog 95 #[.slice (some ⟨b, o, none⟩) k cap, .agg #[.string y0, .int .i64 y1, .int .i64 y2, .int .i64 y3]] x.w fun e w' => e = .returned (.bool q3) ∧ Kept x.w w') := fun x => by
        rw [← hq3]
        exact ialike (c.2.2.take k) y0 y1 y2 y3 _ x.w (HT6.out.kept x.k) (by rw [List.length_take]; omega)
      rw [hq2, hq3] at HRW
      have HQ2 : Hid (decide (ResP c.2.1 (y0, y1, y2, y3)) = q2) := hq2
      clear hq2 hq3 k6 L6 LX Lc HTK HK
      cases q1 : Op.bytesLess y0.toList s.toList with
      | true =>
        have hR := NJ.out (by
          rw [HRW.out]
          cases q2 with
          | false => rfl
          | true =>
            have hn := (of_decide_eq_true HQ2.out).1
            have hb : beforeB c.2.2 k y0 = false := by
              cases hh : beforeB c.2.2 k y0 with
              | false => rfl
              | true => have := ((HBL.out hn).1 hh).1; rw [q1] at this; cases this
            rw [hb]; rfl)
        subst hR
        clear HBL HRW
        repeat (first | go_values | go_skip | go_guarded | go_step | go_upon)
        refine wp_region_kept (by kernel_rfl) (by kernel_rfl) ?_
        have hne := kw_some W6
        have hcc := KW.cell_eq W6
        have hcf := fun (x : KW W6) (b o : Nat) (hb : b < W6.heap.size) => x.k.frozen_eq b o hb
        repeat (first | (go_big_quiet_step (first | (go_at_call 94; with_reducible exact kw_call (AR.out _)) | (go_at_call 95; with_reducible exact kw_call (AU.out _)))) | (go_big_quiet_want; go_big_quiet_op; refine ⟨_, fun _ => (by with_reducible rfl), ?_⟩; go_big_quiet_on))
        refine wpQuiet_nil ?_
        rintro w5 ⟨⟨w8, k5⟩, h9⟩
        change w5 = w8 at h9
        subst h9
        clear hcc hne hcf
        repeat (first | go_values | go_skip | go_guarded | go_step | go_upon)
        go_ret
        exact ⟨rfl, HK6.out.trans k5⟩
      | false =>
        cases q4 : (y0.toList == s.toList) with
        | true =>
          have hR := NJ.out (by
            rw [HRW.out]
            cases q2 with
            | false => rfl
            | true =>
              have hn := (of_decide_eq_true HQ2.out).1
              have hb : beforeB c.2.2 k y0 = false := by
                cases hh : beforeB c.2.2 k y0 with
                | false => rfl
                | true => have := ((HBL.out hn).1 hh).2; rw [q4] at this; cases this
              rw [hb]; rfl)
          subst hR
          clear HBL HRW
          repeat (first | go_values | go_skip | go_guarded | go_step | go_upon)
          refine wp_region_kept (by kernel_rfl) (by kernel_rfl) ?_
          have hne := kw_some W6
          have hcc := KW.cell_eq W6
          have hcf := fun (x : KW W6) (b o : Nat) (hb : b < W6.heap.size) => x.k.frozen_eq b o hb
          repeat (first | (go_big_quiet_step (first | (go_at_call 94; with_reducible exact kw_call (AR.out _)) | (go_at_call 95; with_reducible exact kw_call (AU.out _)))) | (go_big_quiet_want; go_big_quiet_op; refine ⟨_, fun _ => (by with_reducible rfl), ?_⟩; go_big_quiet_on))
          refine wpQuiet_nil ?_
          rintro w5 ⟨⟨w8, k5⟩, h9⟩
          change w5 = w8 at h9
          subst h9
          clear hcc hne hcf
          repeat (first | go_values | go_skip | go_guarded | go_step | go_upon)
          go_ret
          exact ⟨rfl, HK6.out.trans k5⟩
        | false =>
          cases q2 with
          | false =>
            have hR := NJ.out (by rw [HRW.out]; rfl)
            subst hR
            clear HBL HRW
            repeat (first | go_values | go_skip | go_guarded | go_step | go_upon)
            refine wp_region_kept (by kernel_rfl) (by kernel_rfl) ?_
            have hne := kw_some W6
            have hcc := KW.cell_eq W6
            have hcf := fun (x : KW W6) (b o : Nat) (hb : b < W6.heap.size) => x.k.frozen_eq b o hb
            repeat (first | (go_big_quiet_step (first | (go_at_call 94; with_reducible exact kw_call (AR.out _)) | (go_at_call 95; with_reducible exact kw_call (AU.out _)))) | (go_big_quiet_want; go_big_quiet_op; refine ⟨_, fun _ => (by with_reducible rfl), ?_⟩; go_big_quiet_on))
            refine wpQuiet_nil ?_
            rintro w5 ⟨⟨w8, k5⟩, h9⟩
            change w5 = w8 at h9
            subst h9
            clear hcc hne hcf
            repeat (first | go_values | go_skip | go_guarded | go_step | go_upon)
            go_ret
            exact ⟨rfl, HK6.out.trans k5⟩
          | true =>
            have hn := (of_decide_eq_true HQ2.out)
            have hb : beforeB c.2.2 k y0 = true := (HBL.out hn.1).2 ⟨q1, q4⟩
            rw [hb] at HRW
            have HRS : Hid (1 ≤ y1 ∧ y1 ≤ 100000) := hn.2.1
            clear HBL hb hn
            cases q3 with
            | true =>
              have hR := NJ.out (by rw [HRW.out]; rfl)
              subst hR
              clear HRW
              repeat (first | go_values | go_skip | go_guarded | go_step | go_upon)
              refine wp_region_kept (by kernel_rfl) (by kernel_rfl) ?_
              have hne := kw_some W6
              have hcc := KW.cell_eq W6
              have hcf := fun (x : KW W6) (b o : Nat) (hb : b < W6.heap.size) => x.k.frozen_eq b o hb
              repeat (first | (go_big_quiet_step (first | (go_at_call 94; with_reducible exact kw_call (AR.out _)) | (go_at_call 95; with_reducible exact kw_call (AU.out _)))) | (go_big_quiet_want; go_big_quiet_op; refine ⟨_, fun _ => (by with_reducible rfl), ?_⟩; go_big_quiet_on))
              refine wpQuiet_nil ?_
              rintro w5 ⟨⟨w8, k5⟩, h9⟩
              change w5 = w8 at h9
              subst h9
              clear hcc hne hcf
              repeat (first | go_values | go_skip | go_guarded | go_step | go_upon)
              go_ret
              exact ⟨rfl, HK6.out.trans k5⟩
            | false =>
              have HRT : Hid (rowB c.2.1 c.2.2 k = true) := by show _ = _; rw [HRW.out]; rfl
              clear HRW
              repeat (first | go_values | go_skip | go_guarded | go_step | go_upon)
              refine wp_region_kept (by kernel_rfl) (by kernel_rfl) ?_
              have hne := kw_some W6
              have hcc := KW.cell_eq W6
              have hcf := fun (x : KW W6) (b o : Nat) (hb : b < W6.heap.size) => x.k.frozen_eq b o hb
              repeat (first | (go_big_quiet_step (first | (go_at_call 94; with_reducible exact kw_call (AR.out _)) | (go_at_call 95; with_reducible exact kw_call (AU.out _)))) | (go_big_quiet_want; go_big_quiet_op; refine ⟨_, fun _ => (by with_reducible rfl), ?_⟩; go_big_quiet_on))
              refine wpQuiet_nil ?_
              rintro w5 ⟨⟨w8, k5⟩, h9⟩
              change w5 = w8 at h9
              subst h9
              clear hcc hne hcf
              have x0 := Kept.cell k5 x0
              have xl := Nat.lt_of_lt_of_le xl k5.size
              repeat (first | go_values | go_skip | go_guarded | go_step | go_upon)
              refine ⟨⟨k + 1, y0, hlt, by go_num, rfl, all_more hok.out HRT.out, fun h => absurd h (by omega), fun q _ hq => ?_, fun j r hj hr2 => ?_, HL6.out.kept k5, HK6.out.trans k5⟩, by simp [intOf]; omega⟩
              · rw [Nat.add_sub_cancel, HP.out] at hq
                cases hq
                rfl
              · by_cases e : j = k
                · subst e
                  rw [HP.out] at hr2
                  cases hr2
                  exact HRS.out
                · exact hsz.out j r (by omega) hr2
    · have hke : k = c.2.2.length := by omega
      subst hke
      obtain ⟨h1, h2⟩ := H12.out
      have HZ : Hid (∀ r ∈ c.2.2, 1 ≤ r.2.1 ∧ r.2.1 ≤ 100000) := fun r hr2 => by
        obtain ⟨j, hj⟩ := List.mem_iff_getElem?.1 hr2
        exact hsz.out j r (List.getElem?_eq_some_iff.1 hj).1 hj
      have hRR : R = decide (sizesL c.2.2 ≤ c.1) := by
        rcases (Decidable.em (sizesL c.2.2 ≤ c.1)).symm with h9 | h9
        · rw [NO5.out h9, decide_eq_false h9]
        · rw [YES.out h1 h2 h3 hok.out h9, decide_eq_true h9]
      have HRR : Hid (R = decide (sizesL c.2.2 ≤ c.1)) := hRR
      have a0 := Lc.cell 0 rfl
      have a2 := Lc.cell 2 rfl
      have al := Lc.lt
      have AZ : Hid (∀ (x : KW wr), Calls Try.prog 96 #[.slice ao c.2.2.length cap] x.w fun e w' => e = .returned (.int .i64 (sizesL c.2.2)) ∧ Kept x.w w') := fun x => isizes c.2.2 _ x.w (hr.kept (hkp.trans x.k)) h3 HZ.out
      generalize sizesL c.2.2 = Z at *
      have HK : Hid (Kept w wr) := hkp
      clear h1 h2 hRR Lc hkp
      repeat (first | go_values | go_skip | go_guarded | go_step | go_upon)
      refine wp_region_kept (by kernel_rfl) (by kernel_rfl) ?_
      have hne := kw_some wr
      have hcc := KW.cell_eq wr
      have hcf := fun (x : KW wr) (b o : Nat) (hb : b < wr.heap.size) => x.k.frozen_eq b o hb
      repeat (first | (go_big_quiet_step (first | (go_at_call 96; with_reducible exact kw_call (AZ.out _)))) | (go_big_quiet_want; go_big_quiet_op; refine ⟨_, fun _ => (by with_reducible rfl), ?_⟩; go_big_quiet_on))
      refine wpQuiet_nil ?_
      rintro w5 ⟨⟨w8, k5⟩, h9⟩
      change w5 = w8 at h9
      subst h9
      clear hcc hne hcf
      repeat (first | go_values | go_skip | go_guarded | go_step | go_upon)
      go_ret
      exact ⟨ret_boolG HRR.out.symm, HK.out.trans k5⟩

end Go.Proofs.Ytipgffikmnebnaa
