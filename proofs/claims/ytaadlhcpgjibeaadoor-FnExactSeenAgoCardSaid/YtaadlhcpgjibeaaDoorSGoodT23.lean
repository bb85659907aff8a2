/-
  Things as they must be, in the specification.
-/
import Derived.Test.YtaadlhcpgjibeaaDoorThP23
import Derived.Test.YtaadlhcpgjibeaaDoorQuiet
namespace Go.Proofs.YtaadlhcpgjibeaaDoor
open Go.ChangeShapes Go.WideShapes Go.ChangeAt Go.RowKit

set_option maxRecDepth 100000
set_option linter.unusedVariables false
set_option linter.unusedSimpArgs false

set_option maxHeartbeats 16000000 in
theorem sgoodT (l : List ThingD) (v : Value) (w : World) (hv : ThingAt w v l) (hn : l.length ≤ 9000000000000000000) :
    Calls Tryd.prog 19 #[v] w fun e w' => e = .returned (.bool (goodB l)) ∧ Kept w w' := by
  obtain ⟨ao, cap, hsl⟩ := row_nil hv
  subst hsl
  have NO : Hid (¬ ThingsP l → goodB l = false) := fun h => by
    cases hg : goodB l with
    | false => rfl
    | true => exact absurd ((goodB_iff l).1 hg) h
  have YES : Hid (ThingsP l → goodB l = true) := fun h => (goodB_iff l).2 h
  generalize goodB l = R at *
  by_cases h1 : 40 < l.length
  · rw [NO.out (fun h => by have := h.1; omega)]
    have d1 : decide ((l.length : Int) > 40) = true := decide_eq_true (by omega)
    go_enter Tryd.func19, Tryd.ntmps19
    repeat (first | go_values | go_skip | go_guarded | go_step | go_upon)
    go_ret
    exact ⟨rfl, But.refl _ _ _⟩
  have d1 : decide ((l.length : Int) > 40) = false := decide_eq_false (by omega)
  go_enter Tryd.func19, Tryd.ntmps19
  repeat (first | go_values | go_skip | go_guarded | go_step | go_upon)
  clear d1
  go_loopw [10] (fun i wr => ∃ (k : Nat), k ≤ l.length ∧ i = .int .i64 k ∧ Hid (∀ j, j < k → ThOk l j) ∧ Kept w wr) (fun i _ => l.length - (intOf i).toNat)
  case atStart => exact ⟨0, by omega, rfl, (fun j hj => by omega : ∀ j, j < 0 → ThOk l j), But.refl _ _ _⟩
  case round =>
    obtain ⟨j, hk, rfl, HB, hkp⟩ := hrel
    by_cases hlt : j < l.length
    · obtain ⟨d, hd⟩ : ∃ p, l[j]? = some p := ⟨_, List.getElem?_eq_getElem hlt⟩
      obtain ⟨b, o, cap', ee, c0, c1, c2, c3⟩ := thing_get (hv.kept hkp) hd
      cases ee
      have NJ : Hid (¬ ThOk l j → R = false) := fun h => NO.out (fun h' => h (h'.2 j hlt))
      have HP : Hid (l[j]? = some d) := hd
      have HK : Hid (Kept w (wr.alloc (.cells (thingC d).toArray 57))) := hkp.alloc _
      have HK0 : Hid (Kept w wr) := hkp
      obtain ⟨y0, y1, y2, y3⟩ := d
      dsimp only at c0 c1 c2 c3
      clear hkp hd
      rcases Nat.eq_zero_or_pos j with hj | hj
      · subst hj
        simp only [Nat.zero_mul, Nat.add_zero] at c0 c1 c2 c3
        have dj : decide (((0 : Nat) : Int) > 0) = false := rfl
        clear hv
        rcases (Decidable.em (0 ≤ y0 ∧ y0 ≤ 255)).symm with hdi | hdi
        · have Hdi : Hid (∀ W, Calls Tryd.prog 49 #[.int .i64 y0, .int .i64 0, .int .i64 255] W fun e w' => e = .returned (.bool false) ∧ w' = W) := fun W => by have := sin y0 0 255 W; rw [decide_eq_false hdi] at this; exact this
          have hR := NJ.out (fun h => hdi (h _ HP.out).1.1)
          subst hR
          repeat (first | go_values | go_skip | go_guarded | go_step | go_upon)
          have LT := Loc.new wr [.int .i64 y0, .int .i64 y1, .int .i64 y2, .int .i64 y3] 57
          have KT : Kept wr (wr.alloc (.cells #[.int .i64 y0, .int .i64 y1, .int .i64 y2, .int .i64 y3] 57)) := (But.refl _ _ _).alloc _
          have HK7 : Kept w (wr.alloc (.cells #[.int .i64 y0, .int .i64 y1, .int .i64 y2, .int .i64 y3] 57)) := HK0.out.trans KT
          obtain ⟨W7, hW7⟩ : ∃ W, W = wr.alloc (.cells #[.int .i64 y0, .int .i64 y1, .int .i64 y2, .int .i64 y3] 57) := ⟨_, rfl⟩
          rw [← hW7] at LT HK7 ⊢
          have a0 := LT.cell 0 rfl
          have a1 := LT.cell 1 rfl
          have a2 := LT.cell 2 rfl
          have a3 := LT.cell 3 rfl
          have al := LT.lt
          have HK7 : Hid _ := HK7
          clear hW7 LT KT c0 c1 c2 c3
          refine wp_region_kept (by kernel_rfl) (by kernel_rfl) ?_
          have hne := kw_some W7
          have hcc := KW.cell_eq W7
          repeat (first | (go_big_quiet_step (first | (go_at_call 49; with_reducible exact kw_same (Hdi.out _)) | (go_at_call 49; with_reducible exact kw_same (Hdx.out _)) | (go_at_call 49; with_reducible exact kw_same (Hdy.out _)) | (go_at_call 49; with_reducible exact kw_same (Hdh.out _)))) | (go_big_quiet_want; go_big_quiet_op; refine ⟨_, fun _ => (by with_reducible rfl), ?_⟩; go_big_quiet_on))
          refine wpQuiet_nil ?_
          rintro w5 ⟨⟨w8, k5⟩, h9⟩
          change w5 = w8 at h9
          subst h9
          clear hcc hne
          repeat (first | go_values | go_skip | go_guarded | go_step | go_upon)
          go_ret
          exact ⟨rfl, HK7.out.trans k5⟩
        have Hdi : Hid (∀ W, Calls Tryd.prog 49 #[.int .i64 y0, .int .i64 0, .int .i64 255] W fun e w' => e = .returned (.bool true) ∧ w' = W) := fun W => by have := sin y0 0 255 W; rw [decide_eq_true hdi] at this; exact this
        rcases (Decidable.em (0 ≤ y1 ∧ y1 ≤ 1023)).symm with hdx | hdx
        · have Hdx : Hid (∀ W, Calls Tryd.prog 49 #[.int .i64 y1, .int .i64 0, .int .i64 1023] W fun e w' => e = .returned (.bool false) ∧ w' = W) := fun W => by have := sin y1 0 1023 W; rw [decide_eq_false hdx] at this; exact this
          have hR := NJ.out (fun h => hdx (h _ HP.out).1.2.1)
          subst hR
          repeat (first | go_values | go_skip | go_guarded | go_step | go_upon)
          have LT := Loc.new wr [.int .i64 y0, .int .i64 y1, .int .i64 y2, .int .i64 y3] 57
          have KT : Kept wr (wr.alloc (.cells #[.int .i64 y0, .int .i64 y1, .int .i64 y2, .int .i64 y3] 57)) := (But.refl _ _ _).alloc _
          have HK7 : Kept w (wr.alloc (.cells #[.int .i64 y0, .int .i64 y1, .int .i64 y2, .int .i64 y3] 57)) := HK0.out.trans KT
          obtain ⟨W7, hW7⟩ : ∃ W, W = wr.alloc (.cells #[.int .i64 y0, .int .i64 y1, .int .i64 y2, .int .i64 y3] 57) := ⟨_, rfl⟩
          rw [← hW7] at LT HK7 ⊢
          have a0 := LT.cell 0 rfl
          have a1 := LT.cell 1 rfl
          have a2 := LT.cell 2 rfl
          have a3 := LT.cell 3 rfl
          have al := LT.lt
          have HK7 : Hid _ := HK7
          clear hW7 LT KT c0 c1 c2 c3
          refine wp_region_kept (by kernel_rfl) (by kernel_rfl) ?_
          have hne := kw_some W7
          have hcc := KW.cell_eq W7
          repeat (first | (go_big_quiet_step (first | (go_at_call 49; with_reducible exact kw_same (Hdi.out _)) | (go_at_call 49; with_reducible exact kw_same (Hdx.out _)) | (go_at_call 49; with_reducible exact kw_same (Hdy.out _)) | (go_at_call 49; with_reducible exact kw_same (Hdh.out _)))) | (go_big_quiet_want; go_big_quiet_op; refine ⟨_, fun _ => (by with_reducible rfl), ?_⟩; go_big_quiet_on))
          refine wpQuiet_nil ?_
          rintro w5 ⟨⟨w8, k5⟩, h9⟩
          change w5 = w8 at h9
          subst h9
          clear hcc hne
          repeat (first | go_values | go_skip | go_guarded | go_step | go_upon)
          go_ret
          exact ⟨rfl, HK7.out.trans k5⟩
        have Hdx : Hid (∀ W, Calls Tryd.prog 49 #[.int .i64 y1, .int .i64 0, .int .i64 1023] W fun e w' => e = .returned (.bool true) ∧ w' = W) := fun W => by have := sin y1 0 1023 W; rw [decide_eq_true hdx] at this; exact this
        rcases (Decidable.em (0 ≤ y2 ∧ y2 ≤ 1023)).symm with hdy | hdy
        · have Hdy : Hid (∀ W, Calls Tryd.prog 49 #[.int .i64 y2, .int .i64 0, .int .i64 1023] W fun e w' => e = .returned (.bool false) ∧ w' = W) := fun W => by have := sin y2 0 1023 W; rw [decide_eq_false hdy] at this; exact this
          have hR := NJ.out (fun h => hdy (h _ HP.out).1.2.2.1)
          subst hR
          repeat (first | go_values | go_skip | go_guarded | go_step | go_upon)
          have LT := Loc.new wr [.int .i64 y0, .int .i64 y1, .int .i64 y2, .int .i64 y3] 57
          have KT : Kept wr (wr.alloc (.cells #[.int .i64 y0, .int .i64 y1, .int .i64 y2, .int .i64 y3] 57)) := (But.refl _ _ _).alloc _
          have HK7 : Kept w (wr.alloc (.cells #[.int .i64 y0, .int .i64 y1, .int .i64 y2, .int .i64 y3] 57)) := HK0.out.trans KT
          obtain ⟨W7, hW7⟩ : ∃ W, W = wr.alloc (.cells #[.int .i64 y0, .int .i64 y1, .int .i64 y2, .int .i64 y3] 57) := ⟨_, rfl⟩
          rw [← hW7] at LT HK7 ⊢
          have a0 := LT.cell 0 rfl
          have a1 := LT.cell 1 rfl
          have a2 := LT.cell 2 rfl
          have a3 := LT.cell 3 rfl
          have al := LT.lt
          have HK7 : Hid _ := HK7
          clear hW7 LT KT c0 c1 c2 c3
          refine wp_region_kept (by kernel_rfl) (by kernel_rfl) ?_
          have hne := kw_some W7
          have hcc := KW.cell_eq W7
          repeat (first | (go_big_quiet_step (first | (go_at_call 49; with_reducible exact kw_same (Hdi.out _)) | (go_at_call 49; with_reducible exact kw_same (Hdx.out _)) | (go_at_call 49; with_reducible exact kw_same (Hdy.out _)) | (go_at_call 49; with_reducible exact kw_same (Hdh.out _)))) | (go_big_quiet_want; go_big_quiet_op; refine ⟨_, fun _ => (by with_reducible rfl), ?_⟩; go_big_quiet_on))
          refine wpQuiet_nil ?_
          rintro w5 ⟨⟨w8, k5⟩, h9⟩
          change w5 = w8 at h9
          subst h9
          clear hcc hne
          repeat (first | go_values | go_skip | go_guarded | go_step | go_upon)
          go_ret
          exact ⟨rfl, HK7.out.trans k5⟩
        have Hdy : Hid (∀ W, Calls Tryd.prog 49 #[.int .i64 y2, .int .i64 0, .int .i64 1023] W fun e w' => e = .returned (.bool true) ∧ w' = W) := fun W => by have := sin y2 0 1023 W; rw [decide_eq_true hdy] at this; exact this
        rcases (Decidable.em (0 ≤ y3 ∧ y3 ≤ 127)).symm with hdh | hdh
        · have Hdh : Hid (∀ W, Calls Tryd.prog 49 #[.int .i64 y3, .int .i64 0, .int .i64 127] W fun e w' => e = .returned (.bool false) ∧ w' = W) := fun W => by have := sin y3 0 127 W; rw [decide_eq_false hdh] at this; exact this
          have hR := NJ.out (fun h => hdh (h _ HP.out).1.2.2.2)
          subst hR
          repeat (first | go_values | go_skip | go_guarded | go_step | go_upon)
          have LT := Loc.new wr [.int .i64 y0, .int .i64 y1, .int .i64 y2, .int .i64 y3] 57
          have KT : Kept wr (wr.alloc (.cells #[.int .i64 y0, .int .i64 y1, .int .i64 y2, .int .i64 y3] 57)) := (But.refl _ _ _).alloc _
          have HK7 : Kept w (wr.alloc (.cells #[.int .i64 y0, .int .i64 y1, .int .i64 y2, .int .i64 y3] 57)) := HK0.out.trans KT
          obtain ⟨W7, hW7⟩ : ∃ W, W = wr.alloc (.cells #[.int .i64 y0, .int .i64 y1, .int .i64 y2, .int .i64 y3] 57) := ⟨_, rfl⟩
          rw [← hW7] at LT HK7 ⊢
          have a0 := LT.cell 0 rfl
          have a1 := LT.cell 1 rfl
          have a2 := LT.cell 2 rfl
          have a3 := LT.cell 3 rfl
          have al := LT.lt
          have HK7 : Hid _ := HK7
          clear hW7 LT KT c0 c1 c2 c3
          refine wp_region_kept (by kernel_rfl) (by kernel_rfl) ?_
          have hne := kw_some W7
          have hcc := KW.cell_eq W7
          repeat (first | (go_big_quiet_step (first | (go_at_call 49; with_reducible exact kw_same (Hdi.out _)) | (go_at_call 49; with_reducible exact kw_same (Hdx.out _)) | (go_at_call 49; with_reducible exact kw_same (Hdy.out _)) | (go_at_call 49; with_reducible exact kw_same (Hdh.out _)))) | (go_big_quiet_want; go_big_quiet_op; refine ⟨_, fun _ => (by with_reducible rfl), ?_⟩; go_big_quiet_on))
          refine wpQuiet_nil ?_
          rintro w5 ⟨⟨w8, k5⟩, h9⟩
          change w5 = w8 at h9
          subst h9
          clear hcc hne
          repeat (first | go_values | go_skip | go_guarded | go_step | go_upon)
          go_ret
          exact ⟨rfl, HK7.out.trans k5⟩
        have Hdh : Hid (∀ W, Calls Tryd.prog 49 #[.int .i64 y3, .int .i64 0, .int .i64 127] W fun e w' => e = .returned (.bool true) ∧ w' = W) := fun W => by have := sin y3 0 127 W; rw [decide_eq_true hdh] at this; exact this
        have I : Hid (∀ i, i < 0 + 1 → ThOk l i) := all_more HB.out (fun y hy => by
          rw [HP.out] at hy
          cases hy
          exact ⟨⟨hdi, hdx, hdy, hdh⟩, fun q h0 => absurd h0 (by omega)⟩)
        repeat (first | go_values | go_skip | go_guarded | go_step | go_upon)
        have LT := Loc.new wr [.int .i64 y0, .int .i64 y1, .int .i64 y2, .int .i64 y3] 57
        have KT : Kept wr (wr.alloc (.cells #[.int .i64 y0, .int .i64 y1, .int .i64 y2, .int .i64 y3] 57)) := (But.refl _ _ _).alloc _
        have HK7 : Kept w (wr.alloc (.cells #[.int .i64 y0, .int .i64 y1, .int .i64 y2, .int .i64 y3] 57)) := HK0.out.trans KT
        obtain ⟨W7, hW7⟩ : ∃ W, W = wr.alloc (.cells #[.int .i64 y0, .int .i64 y1, .int .i64 y2, .int .i64 y3] 57) := ⟨_, rfl⟩
        rw [← hW7] at LT HK7 ⊢
        have a0 := LT.cell 0 rfl
        have a1 := LT.cell 1 rfl
        have a2 := LT.cell 2 rfl
        have a3 := LT.cell 3 rfl
        have al := LT.lt
        have HK7 : Hid _ := HK7
        clear hW7 LT KT c0 c1 c2 c3
        refine wp_region_kept (by kernel_rfl) (by kernel_rfl) ?_
        have hne := kw_some W7
        have hcc := KW.cell_eq W7
        repeat (first | (go_big_quiet_step (first | (go_at_call 49; with_reducible exact kw_same (Hdi.out _)) | (go_at_call 49; with_reducible exact kw_same (Hdx.out _)) | (go_at_call 49; with_reducible exact kw_same (Hdy.out _)) | (go_at_call 49; with_reducible exact kw_same (Hdh.out _)))) | (go_big_quiet_want; go_big_quiet_op; refine ⟨_, fun _ => (by with_reducible rfl), ?_⟩; go_big_quiet_on))
        refine wpQuiet_nil ?_
        rintro w5 ⟨⟨w8, k5⟩, h9⟩
        change w5 = w8 at h9
        subst h9
        clear hcc hne
        repeat (first | go_values | go_skip | go_guarded | go_step | go_upon)
        exact ⟨⟨0 + 1, hlt, by go_num, I, HK7.out.trans k5⟩, by simp [intOf]; omega⟩
      · have dj : decide ((j : Int) > 0) = true := decide_eq_true (by omega)
        obtain ⟨q, hq⟩ : ∃ q, l[j - 1]? = some q := ⟨_, List.getElem?_eq_getElem (by omega)⟩
        obtain ⟨b2, o2, cap2, ee, p0, -⟩ := thing_get (hv.kept HK0.out) hq
        cases ee
        have HQ : Hid (l[j - 1]? = some q) := hq
        obtain ⟨q0, q1, q2, q3⟩ := q
        dsimp only at p0
        clear hv hq
        rcases (Decidable.em (0 ≤ y0 ∧ y0 ≤ 255)).symm with hdi | hdi
        · have Hdi : Hid (∀ W, Calls Tryd.prog 49 #[.int .i64 y0, .int .i64 0, .int .i64 255] W fun e w' => e = .returned (.bool false) ∧ w' = W) := fun W => by have := sin y0 0 255 W; rw [decide_eq_false hdi] at this; exact this
          have hR := NJ.out (fun h => hdi (h _ HP.out).1.1)
          subst hR
          repeat (first | go_values | go_skip | go_guarded | go_step | go_upon)
          have LT := Loc.new wr [.int .i64 y0, .int .i64 y1, .int .i64 y2, .int .i64 y3] 57
          have KT : Kept wr (wr.alloc (.cells #[.int .i64 y0, .int .i64 y1, .int .i64 y2, .int .i64 y3] 57)) := (But.refl _ _ _).alloc _
          have HK7 : Kept w (wr.alloc (.cells #[.int .i64 y0, .int .i64 y1, .int .i64 y2, .int .i64 y3] 57)) := HK0.out.trans KT
          have p0 := Kept.cell KT p0
          have pb := World.block_lt_of_cell? _ _ p0
          dsimp only at pb
          obtain ⟨W7, hW7⟩ : ∃ W, W = wr.alloc (.cells #[.int .i64 y0, .int .i64 y1, .int .i64 y2, .int .i64 y3] 57) := ⟨_, rfl⟩
          rw [← hW7] at LT HK7 p0 pb ⊢
          have a0 := LT.cell 0 rfl
          have a1 := LT.cell 1 rfl
          have a2 := LT.cell 2 rfl
          have a3 := LT.cell 3 rfl
          have al := LT.lt
          have HK7 : Hid _ := HK7
          clear hW7 LT KT c0 c1 c2 c3
          refine wp_region_kept (by kernel_rfl) (by kernel_rfl) ?_
          have hne := kw_some W7
          have hcc := KW.cell_eq W7
          repeat (first | (go_big_quiet_step (first | (go_at_call 49; with_reducible exact kw_same (Hdi.out _)) | (go_at_call 49; with_reducible exact kw_same (Hdx.out _)) | (go_at_call 49; with_reducible exact kw_same (Hdy.out _)) | (go_at_call 49; with_reducible exact kw_same (Hdh.out _)))) | (go_big_quiet_want; go_big_quiet_op; refine ⟨_, fun _ => (by with_reducible rfl), ?_⟩; go_big_quiet_on))
          refine wpQuiet_nil ?_
          rintro w5 ⟨⟨w8, k5⟩, h9⟩
          change w5 = w8 at h9
          subst h9
          clear hcc hne
          repeat (first | go_values | go_skip | go_guarded | go_step | go_upon)
          go_ret
          exact ⟨rfl, HK7.out.trans k5⟩
        have Hdi : Hid (∀ W, Calls Tryd.prog 49 #[.int .i64 y0, .int .i64 0, .int .i64 255] W fun e w' => e = .returned (.bool true) ∧ w' = W) := fun W => by have := sin y0 0 255 W; rw [decide_eq_true hdi] at this; exact this
        rcases (Decidable.em (0 ≤ y1 ∧ y1 ≤ 1023)).symm with hdx | hdx
        · have Hdx : Hid (∀ W, Calls Tryd.prog 49 #[.int .i64 y1, .int .i64 0, .int .i64 1023] W fun e w' => e = .returned (.bool false) ∧ w' = W) := fun W => by have := sin y1 0 1023 W; rw [decide_eq_false hdx] at this; exact this
          have hR := NJ.out (fun h => hdx (h _ HP.out).1.2.1)
          subst hR
          repeat (first | go_values | go_skip | go_guarded | go_step | go_upon)
          have LT := Loc.new wr [.int .i64 y0, .int .i64 y1, .int .i64 y2, .int .i64 y3] 57
          have KT : Kept wr (wr.alloc (.cells #[.int .i64 y0, .int .i64 y1, .int .i64 y2, .int .i64 y3] 57)) := (But.refl _ _ _).alloc _
          have HK7 : Kept w (wr.alloc (.cells #[.int .i64 y0, .int .i64 y1, .int .i64 y2, .int .i64 y3] 57)) := HK0.out.trans KT
          have p0 := Kept.cell KT p0
          have pb := World.block_lt_of_cell? _ _ p0
          dsimp only at pb
          obtain ⟨W7, hW7⟩ : ∃ W, W = wr.alloc (.cells #[.int .i64 y0, .int .i64 y1, .int .i64 y2, .int .i64 y3] 57) := ⟨_, rfl⟩
          rw [← hW7] at LT HK7 p0 pb ⊢
          have a0 := LT.cell 0 rfl
          have a1 := LT.cell 1 rfl
          have a2 := LT.cell 2 rfl
          have a3 := LT.cell 3 rfl
          have al := LT.lt
          have HK7 : Hid _ := HK7
          clear hW7 LT KT c0 c1 c2 c3
          refine wp_region_kept (by kernel_rfl) (by kernel_rfl) ?_
          have hne := kw_some W7
          have hcc := KW.cell_eq W7
          repeat (first | (go_big_quiet_step (first | (go_at_call 49; with_reducible exact kw_same (Hdi.out _)) | (go_at_call 49; with_reducible exact kw_same (Hdx.out _)) | (go_at_call 49; with_reducible exact kw_same (Hdy.out _)) | (go_at_call 49; with_reducible exact kw_same (Hdh.out _)))) | (go_big_quiet_want; go_big_quiet_op; refine ⟨_, fun _ => (by with_reducible rfl), ?_⟩; go_big_quiet_on))
          refine wpQuiet_nil ?_
          rintro w5 ⟨⟨w8, k5⟩, h9⟩
          change w5 = w8 at h9
          subst h9
          clear hcc hne
          repeat (first | go_values | go_skip | go_guarded | go_step | go_upon)
          go_ret
          exact ⟨rfl, HK7.out.trans k5⟩
        have Hdx : Hid (∀ W, Calls Tryd.prog 49 #[.int .i64 y1, .int .i64 0, .int .i64 1023] W fun e w' => e = .returned (.bool true) ∧ w' = W) := fun W => by have := sin y1 0 1023 W; rw [decide_eq_true hdx] at this; exact this
        rcases (Decidable.em (0 ≤ y2 ∧ y2 ≤ 1023)).symm with hdy | hdy
        · have Hdy : Hid (∀ W, Calls Tryd.prog 49 #[.int .i64 y2, .int .i64 0, .int .i64 1023] W fun e w' => e = .returned (.bool false) ∧ w' = W) := fun W => by have := sin y2 0 1023 W; rw [decide_eq_false hdy] at this; exact this
          have hR := NJ.out (fun h => hdy (h _ HP.out).1.2.2.1)
          subst hR
          repeat (first | go_values | go_skip | go_guarded | go_step | go_upon)
          have LT := Loc.new wr [.int .i64 y0, .int .i64 y1, .int .i64 y2, .int .i64 y3] 57
          have KT : Kept wr (wr.alloc (.cells #[.int .i64 y0, .int .i64 y1, .int .i64 y2, .int .i64 y3] 57)) := (But.refl _ _ _).alloc _
          have HK7 : Kept w (wr.alloc (.cells #[.int .i64 y0, .int .i64 y1, .int .i64 y2, .int .i64 y3] 57)) := HK0.out.trans KT
          have p0 := Kept.cell KT p0
          have pb := World.block_lt_of_cell? _ _ p0
          dsimp only at pb
          obtain ⟨W7, hW7⟩ : ∃ W, W = wr.alloc (.cells #[.int .i64 y0, .int .i64 y1, .int .i64 y2, .int .i64 y3] 57) := ⟨_, rfl⟩
          rw [← hW7] at LT HK7 p0 pb ⊢
          have a0 := LT.cell 0 rfl
          have a1 := LT.cell 1 rfl
          have a2 := LT.cell 2 rfl
          have a3 := LT.cell 3 rfl
          have al := LT.lt
          have HK7 : Hid _ := HK7
          clear hW7 LT KT c0 c1 c2 c3
          refine wp_region_kept (by kernel_rfl) (by kernel_rfl) ?_
          have hne := kw_some W7
          have hcc := KW.cell_eq W7
          repeat (first | (go_big_quiet_step (first | (go_at_call 49; with_reducible exact kw_same (Hdi.out _)) | (go_at_call 49; with_reducible exact kw_same (Hdx.out _)) | (go_at_call 49; with_reducible exact kw_same (Hdy.out _)) | (go_at_call 49; with_reducible exact kw_same (Hdh.out _)))) | (go_big_quiet_want; go_big_quiet_op; refine ⟨_, fun _ => (by with_reducible rfl), ?_⟩; go_big_quiet_on))
          refine wpQuiet_nil ?_
          rintro w5 ⟨⟨w8, k5⟩, h9⟩
          change w5 = w8 at h9
          subst h9
          clear hcc hne
          repeat (first | go_values | go_skip | go_guarded | go_step | go_upon)
          go_ret
          exact ⟨rfl, HK7.out.trans k5⟩
        have Hdy : Hid (∀ W, Calls Tryd.prog 49 #[.int .i64 y2, .int .i64 0, .int .i64 1023] W fun e w' => e = .returned (.bool true) ∧ w' = W) := fun W => by have := sin y2 0 1023 W; rw [decide_eq_true hdy] at this; exact this
        rcases (Decidable.em (0 ≤ y3 ∧ y3 ≤ 127)).symm with hdh | hdh
        · have Hdh : Hid (∀ W, Calls Tryd.prog 49 #[.int .i64 y3, .int .i64 0, .int .i64 127] W fun e w' => e = .returned (.bool false) ∧ w' = W) := fun W => by have := sin y3 0 127 W; rw [decide_eq_false hdh] at this; exact this
          have hR := NJ.out (fun h => hdh (h _ HP.out).1.2.2.2)
          subst hR
          repeat (first | go_values | go_skip | go_guarded | go_step | go_upon)
          have LT := Loc.new wr [.int .i64 y0, .int .i64 y1, .int .i64 y2, .int .i64 y3] 57
          have KT : Kept wr (wr.alloc (.cells #[.int .i64 y0, .int .i64 y1, .int .i64 y2, .int .i64 y3] 57)) := (But.refl _ _ _).alloc _
          have HK7 : Kept w (wr.alloc (.cells #[.int .i64 y0, .int .i64 y1, .int .i64 y2, .int .i64 y3] 57)) := HK0.out.trans KT
          have p0 := Kept.cell KT p0
          have pb := World.block_lt_of_cell? _ _ p0
          dsimp only at pb
          obtain ⟨W7, hW7⟩ : ∃ W, W = wr.alloc (.cells #[.int .i64 y0, .int .i64 y1, .int .i64 y2, .int .i64 y3] 57) := ⟨_, rfl⟩
          rw [← hW7] at LT HK7 p0 pb ⊢
          have a0 := LT.cell 0 rfl
          have a1 := LT.cell 1 rfl
          have a2 := LT.cell 2 rfl
          have a3 := LT.cell 3 rfl
          have al := LT.lt
          have HK7 : Hid _ := HK7
          clear hW7 LT KT c0 c1 c2 c3
          refine wp_region_kept (by kernel_rfl) (by kernel_rfl) ?_
          have hne := kw_some W7
          have hcc := KW.cell_eq W7
          repeat (first | (go_big_quiet_step (first | (go_at_call 49; with_reducible exact kw_same (Hdi.out _)) | (go_at_call 49; with_reducible exact kw_same (Hdx.out _)) | (go_at_call 49; with_reducible exact kw_same (Hdy.out _)) | (go_at_call 49; with_reducible exact kw_same (Hdh.out _)))) | (go_big_quiet_want; go_big_quiet_op; refine ⟨_, fun _ => (by with_reducible rfl), ?_⟩; go_big_quiet_on))
          refine wpQuiet_nil ?_
          rintro w5 ⟨⟨w8, k5⟩, h9⟩
          change w5 = w8 at h9
          subst h9
          clear hcc hne
          repeat (first | go_values | go_skip | go_guarded | go_step | go_upon)
          go_ret
          exact ⟨rfl, HK7.out.trans k5⟩
        have Hdh : Hid (∀ W, Calls Tryd.prog 49 #[.int .i64 y3, .int .i64 0, .int .i64 127] W fun e w' => e = .returned (.bool true) ∧ w' = W) := fun W => by have := sin y3 0 127 W; rw [decide_eq_true hdh] at this; exact this
        rcases (Decidable.em (q0 < y0)).symm with hl | hl
        · have dl : decide (q0 ≥ y0) = true := decide_eq_true (by omega)
          have hR := NJ.out (fun h => hl ((h _ HP.out).2 _ hj HQ.out))
          subst hR
          repeat (first | go_values | go_skip | go_guarded | go_step | go_upon)
          have LT := Loc.new wr [.int .i64 y0, .int .i64 y1, .int .i64 y2, .int .i64 y3] 57
          have KT : Kept wr (wr.alloc (.cells #[.int .i64 y0, .int .i64 y1, .int .i64 y2, .int .i64 y3] 57)) := (But.refl _ _ _).alloc _
          have HK7 : Kept w (wr.alloc (.cells #[.int .i64 y0, .int .i64 y1, .int .i64 y2, .int .i64 y3] 57)) := HK0.out.trans KT
          have p0 := Kept.cell KT p0
          have pb := World.block_lt_of_cell? _ _ p0
          dsimp only at pb
          obtain ⟨W7, hW7⟩ : ∃ W, W = wr.alloc (.cells #[.int .i64 y0, .int .i64 y1, .int .i64 y2, .int .i64 y3] 57) := ⟨_, rfl⟩
          rw [← hW7] at LT HK7 p0 pb ⊢
          have a0 := LT.cell 0 rfl
          have a1 := LT.cell 1 rfl
          have a2 := LT.cell 2 rfl
          have a3 := LT.cell 3 rfl
          have al := LT.lt
          have HK7 : Hid _ := HK7
          clear hW7 LT KT c0 c1 c2 c3
          refine wp_region_kept (by kernel_rfl) (by kernel_rfl) ?_
          have hne := kw_some W7
          have hcc := KW.cell_eq W7
          repeat (first | (go_big_quiet_step (first | (go_at_call 49; with_reducible exact kw_same (Hdi.out _)) | (go_at_call 49; with_reducible exact kw_same (Hdx.out _)) | (go_at_call 49; with_reducible exact kw_same (Hdy.out _)) | (go_at_call 49; with_reducible exact kw_same (Hdh.out _)))) | (go_big_quiet_want; go_big_quiet_op; refine ⟨_, fun _ => (by with_reducible rfl), ?_⟩; go_big_quiet_on))
          refine wpQuiet_nil ?_
          rintro w5 ⟨⟨w8, k5⟩, h9⟩
          change w5 = w8 at h9
          subst h9
          clear hcc hne
          repeat (first | go_values | go_skip | go_guarded | go_step | go_upon)
          go_ret
          exact ⟨rfl, HK7.out.trans k5⟩
        have dl : decide (q0 ≥ y0) = false := decide_eq_false (by omega)
        have I : Hid (∀ i, i < j + 1 → ThOk l i) := all_more HB.out (fun y hy => by
          rw [HP.out] at hy
          cases hy
          exact ⟨⟨hdi, hdx, hdy, hdh⟩, fun q h0 hq => by rw [HQ.out] at hq; cases hq; exact hl⟩)
        repeat (first | go_values | go_skip | go_guarded | go_step | go_upon)
        have LT := Loc.new wr [.int .i64 y0, .int .i64 y1, .int .i64 y2, .int .i64 y3] 57
        have KT : Kept wr (wr.alloc (.cells #[.int .i64 y0, .int .i64 y1, .int .i64 y2, .int .i64 y3] 57)) := (But.refl _ _ _).alloc _
        have HK7 : Kept w (wr.alloc (.cells #[.int .i64 y0, .int .i64 y1, .int .i64 y2, .int .i64 y3] 57)) := HK0.out.trans KT
        have p0 := Kept.cell KT p0
        have pb := World.block_lt_of_cell? _ _ p0
        dsimp only at pb
        obtain ⟨W7, hW7⟩ : ∃ W, W = wr.alloc (.cells #[.int .i64 y0, .int .i64 y1, .int .i64 y2, .int .i64 y3] 57) := ⟨_, rfl⟩
        rw [← hW7] at LT HK7 p0 pb ⊢
        have a0 := LT.cell 0 rfl
        have a1 := LT.cell 1 rfl
        have a2 := LT.cell 2 rfl
        have a3 := LT.cell 3 rfl
        have al := LT.lt
        have HK7 : Hid _ := HK7
        clear hW7 LT KT c0 c1 c2 c3
        refine wp_region_kept (by kernel_rfl) (by kernel_rfl) ?_
        have hne := kw_some W7
        have hcc := KW.cell_eq W7
        repeat (first | (go_big_quiet_step (first | (go_at_call 49; with_reducible exact kw_same (Hdi.out _)) | (go_at_call 49; with_reducible exact kw_same (Hdx.out _)) | (go_at_call 49; with_reducible exact kw_same (Hdy.out _)) | (go_at_call 49; with_reducible exact kw_same (Hdh.out _)))) | (go_big_quiet_want; go_big_quiet_op; refine ⟨_, fun _ => (by with_reducible rfl), ?_⟩; go_big_quiet_on))
        refine wpQuiet_nil ?_
        rintro w5 ⟨⟨w8, k5⟩, h9⟩
        change w5 = w8 at h9
        subst h9
        clear hcc hne
        repeat (first | go_values | go_skip | go_guarded | go_step | go_upon)
        exact ⟨⟨j + 1, hlt, by go_num, I, HK7.out.trans k5⟩, by simp [intOf]; omega⟩
    · have hke : j = l.length := by omega
      subst hke
      have HKP : Hid (Kept w wr) := hkp
      have hR := YES.out ⟨by omega, HB.out⟩
      subst hR
      clear hkp
      repeat (first | go_values | go_skip | go_guarded | go_step | go_upon)
      go_ret
      exact ⟨rfl, HKP.out⟩

end Go.Proofs.YtaadlhcpgjibeaaDoor
