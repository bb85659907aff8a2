/-
  A line painted, in the specification.
-/
import Derived.Test.YtoimpkhgdpkhkaaLine20
namespace Go.Proofs.Ytoimpkhgdpkhkaa
open Go.ChangeShapes Go.WideShapes Go.ChangeAt Go.RowKit

set_option maxRecDepth 100000
set_option linter.unusedVariables false
set_option linter.unusedSimpArgs false

set_option maxHeartbeats 16000000 in
theorem sline (c : SheetD) (x0 y0 x1 y1 col : Int) (v : Value) (w : World) (hv : SheetAt w v c) (hn : c.2.2.length ≤ 1048576) :
    Calls Try.prog 31 #[v, .int .i64 x0, .int .i64 y0, .int .i64 x1, .int .i64 y1, .int .i64 col] w fun e w' => ∃ v', e = .returned (.tuple #[v', .bool (lineA c x0 y0 x1 y1 col).2]) ∧ SheetO w' w.heap.size w'.heap.size v' (lineA c x0 y0 x1 y1 col).1 ∧ Kept w w' := by
  obtain ⟨ao, cap, hfm⟩ := hv.form
  subst hfm
  rcases (Decidable.em (SheetP c)).symm with hdP | hdP
  · rw [show lineA c x0 y0 x1 y1 col = ((0, 0, []), false) from if_neg (fun h => hdP h.1)]
    have dP : decide (SheetP c) = false := decide_eq_false hdP
    clear hdP
    go_enter Try.func31, Try.ntmps31
    repeat (first | (go_at_call 23; refine (sgood c _ _ (hv.kept (((But.refl _ _ _).alloc _).alloc _)) (by omega)).mono ?_; rintro e u1 ⟨rfl, k1⟩; rw [dP]; have K1 : Kept w u1 := (((But.refl _ _ _).alloc _).alloc _).trans k1; have L1 := ((Loc.new w [.int .i64 c.1, .int .i64 c.2.1, .slice ao c.2.2.length cap] 49).alloc (.cells #[.int .i64 0, .int .i64 0, .slice none 0 0] 49)).kept k1; have L3 := (Loc.new (w.alloc (.cells #[.int .i64 c.1, .int .i64 c.2.1, .slice ao c.2.2.length cap] 49)) [.int .i64 0, .int .i64 0, .slice none 0 0] 49).kept k1; simp only [World.size_alloc] at L3; have r0 := L3.cell 0 rfl; have r1 := L3.cell 1 rfl; have r2 := L3.cell 2 rfl; have rl := L3.lt; have rf0 := L3.frozen 0; have rf1 := L3.frozen 1; have rf2 := L3.frozen 2; have s0 := L1.cell 0 rfl; have s1 := L1.cell 1 rfl; have s2 := L1.cell 2 rfl; have sl := L1.lt; have sf2 := L1.frozen 2; dsimp only) | go_values | go_skip | go_guarded | go_step | go_upon)
    refine bodyPost_ret (v := .tuple #[.agg #[.int .i64 0, .int .i64 0, .slice none 0 0], .bool false]) (by simp [results, Try.results31, go_sem, *]) rfl ?_
    exact ⟨_, rfl, no_sheet _ _ _, ((K1.setNew (by simp) _).setNew (by simp) _).setNew (by simp) _⟩
  have dP : decide (SheetP c) = true := decide_eq_true hdP
  rcases (Decidable.em (0 ≤ col ∧ col ≤ 16777215)).symm with hdC | hdC
  · rw [show lineA c x0 y0 x1 y1 col = ((0, 0, []), false) from if_neg (fun h => hdC h.2.2)]
    have dC : decide (0 ≤ col ∧ col ≤ 16777215) = false := decide_eq_false hdC
    clear hdC
    go_enter Try.func31, Try.ntmps31
    repeat (first | (go_at_call 23; refine (sgood c _ _ (hv.kept (((But.refl _ _ _).alloc _).alloc _)) (by omega)).mono ?_; rintro e u1 ⟨rfl, k1⟩; rw [dP]; have K1 : Kept w u1 := (((But.refl _ _ _).alloc _).alloc _).trans k1; have L1 := ((Loc.new w [.int .i64 c.1, .int .i64 c.2.1, .slice ao c.2.2.length cap] 49).alloc (.cells #[.int .i64 0, .int .i64 0, .slice none 0 0] 49)).kept k1; have L3 := (Loc.new (w.alloc (.cells #[.int .i64 c.1, .int .i64 c.2.1, .slice ao c.2.2.length cap] 49)) [.int .i64 0, .int .i64 0, .slice none 0 0] 49).kept k1; simp only [World.size_alloc] at L3; have r0 := L3.cell 0 rfl; have r1 := L3.cell 1 rfl; have r2 := L3.cell 2 rfl; have rl := L3.lt; have rf0 := L3.frozen 0; have rf1 := L3.frozen 1; have rf2 := L3.frozen 2; have s0 := L1.cell 0 rfl; have s1 := L1.cell 1 rfl; have s2 := L1.cell 2 rfl; have sl := L1.lt; have sf2 := L1.frozen 2; dsimp only) | (go_at_call 43; refine (scolor _ _).mono ?_; rintro e w3 ⟨rfl, hw3⟩; rw [hw3, dC]; clear hw3 w3; dsimp only) | go_values | go_skip | go_guarded | go_step | go_upon)
    refine bodyPost_ret (v := .tuple #[.agg #[.int .i64 0, .int .i64 0, .slice none 0 0], .bool false]) (by simp [results, Try.results31, go_sem, *]) rfl ?_
    exact ⟨_, rfl, no_sheet _ _ _, ((K1.setNew (by simp) _).setNew (by simp) _).setNew (by simp) _⟩
  have dC : decide (0 ≤ col ∧ col ≤ 16777215) = true := decide_eq_true hdC
  obtain ⟨R, hR⟩ : ∃ R, lineA c x0 y0 x1 y1 col = R := ⟨_, rfl⟩
  have HRR : Hid (lineA c x0 y0 x1 y1 col = R) := hR
  rw [hR]
  clear hR
  go_enter Try.func31, Try.ntmps31
  repeat (first | (go_at_call 23; refine (sgood c _ _ (hv.kept (((But.refl _ _ _).alloc _).alloc _)) (by omega)).mono ?_; rintro e u1 ⟨rfl, k1⟩; rw [dP]; have K1 : Kept w u1 := (((But.refl _ _ _).alloc _).alloc _).trans k1; have L1 := ((Loc.new w [.int .i64 c.1, .int .i64 c.2.1, .slice ao c.2.2.length cap] 49).alloc (.cells #[.int .i64 0, .int .i64 0, .slice none 0 0] 49)).kept k1; have L3 := (Loc.new (w.alloc (.cells #[.int .i64 c.1, .int .i64 c.2.1, .slice ao c.2.2.length cap] 49)) [.int .i64 0, .int .i64 0, .slice none 0 0] 49).kept k1; simp only [World.size_alloc] at L3; have r0 := L3.cell 0 rfl; have r1 := L3.cell 1 rfl; have r2 := L3.cell 2 rfl; have rl := L3.lt; have rf0 := L3.frozen 0; have rf1 := L3.frozen 1; have rf2 := L3.frozen 2; have s0 := L1.cell 0 rfl; have s1 := L1.cell 1 rfl; have s2 := L1.cell 2 rfl; have sl := L1.lt; have sf2 := L1.frozen 2; dsimp only) | (go_at_call 43; refine (scolor _ _).mono ?_; rintro e w3 ⟨rfl, hw3⟩; rw [hw3, dC]; clear hw3 w3; dsimp only) | go_values | go_skip | go_guarded | go_step | go_upon)
  obtain ⟨u2, hu2⟩ : ∃ W, W = u1.alloc (.cells #[.int .i64 x0, .int .i64 y0, .int .i64 x1, .int .i64 y1] 3) := ⟨_, rfl⟩
  have k2 : Kept u1 u2 := by rw [hu2]; exact (But.refl _ _ _).alloc _
  have LS : Loc u2 u1.heap.size [.int .i64 x0, .int .i64 y0, .int .i64 x1, .int .i64 y1] := by rw [hu2]; exact Loc.new u1 _ 3
  have K2 := K1.trans k2
  clear s0 s1 s2 sl sf2 r0 r1 r2 rl rf0 rf1 rf2
  have L1 := L1.kept k2
  have L3 := L3.kept k2
  rw [← hu2]
  have s0 := L1.cell 0 rfl
  have s1 := L1.cell 1 rfl
  have s2 := L1.cell 2 rfl
  have sl := L1.lt
  have sf2 := L1.frozen 2
  have r0 := L3.cell 0 rfl
  have r1 := L3.cell 1 rfl
  have r2 := L3.cell 2 rfl
  have rl := L3.lt
  have rf0 := L3.frozen 0
  have rf1 := L3.frozen 1
  have rf2 := L3.frozen 2
  clear hu2 dP dC
  go_loopw [34] (fun i wr => wr = u2 ∧ ((i = .int .i64 0) ∨ (i = .int .i64 1 ∧ Hid (PlP x0)) ∨ (i = .int .i64 2 ∧ Hid (PlP x0 ∧ PlP y0)) ∨ (i = .int .i64 3 ∧ Hid (PlP x0 ∧ PlP y0 ∧ PlP x1)) ∨ (i = .int .i64 4 ∧ Hid (EndsP x0 y0 x1 y1)))) (fun i _ => 4 - (intOf i).toNat)
  case atStart => exact ⟨rfl, .inl rfl⟩
  case round =>
    obtain ⟨hwr, hrel⟩ := hrel
    have hwr' := hwr.symm
    clear hwr
    subst hwr'
    rcases hrel with rfl | ⟨rfl, HE⟩ | ⟨rfl, HE⟩ | ⟨rfl, HE⟩ | ⟨rfl, HE⟩
    · have q0 := LS.cell 0 rfl
      have ql := LS.lt
      rcases (Decidable.em (-10000 ≤ x0 ∧ x0 ≤ 10000)).symm with hd | hd
      · have hF : R = ((0, 0, []), false) := by rw [← HRR.out]; exact if_neg (fun h => hd h.2.1.1)
        subst hF
        have dE : decide (-10000 ≤ x0 ∧ x0 ≤ 10000) = false := decide_eq_false hd
        clear hd
        repeat (first | (go_at_call 35; refine (sInG _ _ _ _).mono ?_; rintro e w3 ⟨rfl, hw3⟩; rw [hw3, dE]; clear hw3 w3; dsimp only) | go_values | go_skip | go_guarded | go_step | go_upon)
        refine bodyPost_ret (v := .tuple #[.agg #[.int .i64 0, .int .i64 0, .slice none 0 0], .bool false]) (by simp [results, Try.results31, go_sem, *]) rfl ?_
        exact ⟨_, rfl, no_sheet _ _ _, ((K2.setNew (by simp) _).setNew (by simp) _).setNew (by simp) _⟩
      · have dE : decide (-10000 ≤ x0 ∧ x0 ≤ 10000) = true := decide_eq_true hd
        have HD : Hid (-10000 ≤ x0 ∧ x0 ≤ 10000) := hd
        clear hd
        repeat (first | (go_at_call 35; refine (sInG _ _ _ _).mono ?_; rintro e w3 ⟨rfl, hw3⟩; rw [hw3, dE]; clear hw3 w3; dsimp only) | go_values | go_skip | go_guarded | go_step | go_upon)
        have hd := HD.out
        exact ⟨⟨by first | rfl | trivial, .inr (.inl ⟨rfl, hd⟩)⟩, by simp [intOf]⟩
    · have q0 := LS.cell 1 rfl
      have ql := LS.lt
      rcases (Decidable.em (-10000 ≤ y0 ∧ y0 ≤ 10000)).symm with hd | hd
      · have hF : R = ((0, 0, []), false) := by rw [← HRR.out]; exact if_neg (fun h => hd h.2.1.2.1)
        subst hF
        have dE : decide (-10000 ≤ y0 ∧ y0 ≤ 10000) = false := decide_eq_false hd
        clear hd
        repeat (first | (go_at_call 35; refine (sInG _ _ _ _).mono ?_; rintro e w3 ⟨rfl, hw3⟩; rw [hw3, dE]; clear hw3 w3; dsimp only) | go_values | go_skip | go_guarded | go_step | go_upon)
        refine bodyPost_ret (v := .tuple #[.agg #[.int .i64 0, .int .i64 0, .slice none 0 0], .bool false]) (by simp [results, Try.results31, go_sem, *]) rfl ?_
        exact ⟨_, rfl, no_sheet _ _ _, ((K2.setNew (by simp) _).setNew (by simp) _).setNew (by simp) _⟩
      · have dE : decide (-10000 ≤ y0 ∧ y0 ≤ 10000) = true := decide_eq_true hd
        have HD : Hid (-10000 ≤ y0 ∧ y0 ≤ 10000) := hd
        clear hd
        repeat (first | (go_at_call 35; refine (sInG _ _ _ _).mono ?_; rintro e w3 ⟨rfl, hw3⟩; rw [hw3, dE]; clear hw3 w3; dsimp only) | go_values | go_skip | go_guarded | go_step | go_upon)
        have hd := HD.out
        exact ⟨⟨by first | rfl | trivial, .inr (.inr (.inl ⟨rfl, HE.out, hd⟩))⟩, by simp [intOf]⟩
    · have q0 := LS.cell 2 rfl
      have ql := LS.lt
      rcases (Decidable.em (-10000 ≤ x1 ∧ x1 ≤ 10000)).symm with hd | hd
      · have hF : R = ((0, 0, []), false) := by rw [← HRR.out]; exact if_neg (fun h => hd h.2.1.2.2.1)
        subst hF
        have dE : decide (-10000 ≤ x1 ∧ x1 ≤ 10000) = false := decide_eq_false hd
        clear hd
        repeat (first | (go_at_call 35; refine (sInG _ _ _ _).mono ?_; rintro e w3 ⟨rfl, hw3⟩; rw [hw3, dE]; clear hw3 w3; dsimp only) | go_values | go_skip | go_guarded | go_step | go_upon)
        refine bodyPost_ret (v := .tuple #[.agg #[.int .i64 0, .int .i64 0, .slice none 0 0], .bool false]) (by simp [results, Try.results31, go_sem, *]) rfl ?_
        exact ⟨_, rfl, no_sheet _ _ _, ((K2.setNew (by simp) _).setNew (by simp) _).setNew (by simp) _⟩
      · have dE : decide (-10000 ≤ x1 ∧ x1 ≤ 10000) = true := decide_eq_true hd
        have HD : Hid (-10000 ≤ x1 ∧ x1 ≤ 10000) := hd
        clear hd
        repeat (first | (go_at_call 35; refine (sInG _ _ _ _).mono ?_; rintro e w3 ⟨rfl, hw3⟩; rw [hw3, dE]; clear hw3 w3; dsimp only) | go_values | go_skip | go_guarded | go_step | go_upon)
        have hd := HD.out
        exact ⟨⟨by first | rfl | trivial, .inr (.inr (.inr (.inl ⟨rfl, HE.out.1, HE.out.2, hd⟩)))⟩, by simp [intOf]⟩
    · have q0 := LS.cell 3 rfl
      have ql := LS.lt
      rcases (Decidable.em (-10000 ≤ y1 ∧ y1 ≤ 10000)).symm with hd | hd
      · have hF : R = ((0, 0, []), false) := by rw [← HRR.out]; exact if_neg (fun h => hd h.2.1.2.2.2)
        subst hF
        have dE : decide (-10000 ≤ y1 ∧ y1 ≤ 10000) = false := decide_eq_false hd
        clear hd
        repeat (first | (go_at_call 35; refine (sInG _ _ _ _).mono ?_; rintro e w3 ⟨rfl, hw3⟩; rw [hw3, dE]; clear hw3 w3; dsimp only) | go_values | go_skip | go_guarded | go_step | go_upon)
        refine bodyPost_ret (v := .tuple #[.agg #[.int .i64 0, .int .i64 0, .slice none 0 0], .bool false]) (by simp [results, Try.results31, go_sem, *]) rfl ?_
        exact ⟨_, rfl, no_sheet _ _ _, ((K2.setNew (by simp) _).setNew (by simp) _).setNew (by simp) _⟩
      · have dE : decide (-10000 ≤ y1 ∧ y1 ≤ 10000) = true := decide_eq_true hd
        have HD : Hid (-10000 ≤ y1 ∧ y1 ≤ 10000) := hd
        clear hd
        repeat (first | (go_at_call 35; refine (sInG _ _ _ _).mono ?_; rintro e w3 ⟨rfl, hw3⟩; rw [hw3, dE]; clear hw3 w3; dsimp only) | go_values | go_skip | go_guarded | go_step | go_upon)
        have hd := HD.out
        exact ⟨⟨by first | rfl | trivial, .inr (.inr (.inr (.inr ⟨rfl, HE.out.1, HE.out.2.1, HE.out.2.2, hd⟩)))⟩, by simp [intOf]⟩
    · obtain ⟨hdx0, hdy0, hdx1, hdy1⟩ := HE.out
      clear HE
      have hE : EndsP x0 y0 x1 y1 := ⟨hdx0, hdy0, hdx1, hdy1⟩
      obtain ⟨M, hM⟩ : ∃ M, stepsM x0 y0 x1 y1 = M := ⟨_, rfl⟩
      have hMb := steps_in hE
      have hT : R = ((c.1, c.2.1, lineN c x0 y0 x1 y1 col M (M.toNat + 1)), true) := by rw [← HRR.out, lineA, if_pos ⟨hdP, hE, hdC⟩, hM]
      subst hT
      clear HRR
      rw [hM] at hMb
      obtain ⟨hW, hH, hL, _⟩ := hdP
      have hpos : 0 < c.2.2.length := by have := mul_in hW.1 hW.2 hH.1 hH.2; omega
      have HL : Hid ((c.2.2.length : Int) = c.1 * c.2.1) := hL
      have HE : Hid (EndsP x0 y0 x1 y1) := hE
      have HM : Hid (max (absM (x1 - x0)) (absM (y1 - y0)) = M) := hM
      have ab1 := absM_in (x := x1 - x0) (m := 20000) (by omega) (by omega)
      have ab2 := absM_in (x := y1 - y0) (m := 20000) (by omega) (by omega)
      have XA : Hid (∀ W, Calls Try.prog 49 #[.int .i64 (x1 - x0)] W fun e w' => e = .returned (.int .i64 (absM (x1 - x0))) ∧ w' = W) := fun W => sabs _ W (by omega)
      have YA : Hid (∀ W, Calls Try.prog 49 #[.int .i64 (y1 - y0)] W fun e w' => e = .returned (.int .i64 (absM (y1 - y0))) ∧ w' = W) := fun W => sabs _ W (by omega)
      rcases (Decidable.em (absM (x1 - x0) < absM (y1 - y0))).symm with hgt | hgt
      · obtain ⟨q9, hq9⟩ : ∃ q, absM (y1 - y0) = q := ⟨_, rfl⟩
        have hq8 : absM (x1 - x0) = M := by rw [← hM]; unfold stepsM; omega
        rw [hq9, hq8] at hgt
        rw [hq9] at YA
        rw [hq8] at XA
        have dgt : decide (M < q9) = false := decide_eq_false hgt
        clear hL hE hM hdC HM ab1 ab2 hq8 hq9
        rcases (Decidable.em (M = 0)).symm with dM | dM
        · have dM : (M == 0) = false := by simpa using dM
          obtain ⟨i0, hi0, hz0, hz1, hz2⟩ := info_parts info_num
          repeat (first
            | (at_builtin
               refine wpList_append_any _ rfl _ _ 34 rfl u2.heap.size 3 i0 (.int .i64 0) 1 8 Try.underlying34 hi0 hz0 hz1 hz2 rfl (by decide) _ _ _ rfl (own_new u2 3) ao c.2.2.length cap (c.2.2.flatMap numC) rfl (flat_len 1 numC numC_len c.2.2) (row_src (hv.row.kept (K2.alloc _))) (ones c.2.2) (by unfold maxLen; omega) (by omega) (by simp) ?_
               intro v4 u4 hown hgrow
               rw [Nat.zero_add, List.nil_append] at hown
               have o4 : NumO u4 u2.heap.size u4.heap.size v4 c.2.2 := RowO.top hown
               obtain ⟨g, cg, ef⟩ := own_some o4 hpos
               subst ef
               have k4 : Kept u2 u4 := ((But.refl _ _ u2).alloc (.cells #[] 3)).grown hgrow (by intro x hx; cases hx; simp)
               have K3 := K2.trans k4
               have hu2 := L3.lt
               clear hgrow hown
               clear s0 s1 s2 sl sf2 r0 r1 r2 rl rf0 rf1 rf2
               have L1 := L1.kept k4
               have L3 := L3.kept k4
               have ne0 : w.heap.size + 2 ≤ g := (by rcases o4.1.2 with ⟨hf, _⟩ | ⟨g', c2, cur, hf, hb, _⟩ <;> cases hf; omega)
               have ne1 : g ≠ w.heap.size := (by omega)
               have s0 := L1.cell 0 rfl
               have s1 := L1.cell 1 rfl
               have s2 := L1.cell 2 rfl
               have sl := L1.lt
               have sf2 := L1.frozen 2)
            | go_values | go_skip | go_guarded | go_step | go_upon | (go_at_call 49; (first | with_reducible refine (XA.out _).mono ?_ | with_reducible refine (YA.out _).mono ?_); rintro e w3 ⟨rfl, hw3⟩; rw [hw3]; clear hw3 w3; dsimp only))
          obtain ⟨X, hX⟩ : ∃ X, X = u4.setCell ⟨w.heap.size, 2, none⟩ (.slice (some ⟨g, 0, none⟩) c.2.2.length cg) := ⟨_, rfl⟩
          have hg := own_lt o4.1 (g := g) rfl
          have LX : Loc X w.heap.size [.int .i64 c.1, .int .i64 c.2.1, .slice (some ⟨g, 0, none⟩) c.2.2.length cg] := by rw [hX]; exact L1.set 2 _
          have LRR : Loc X (w.heap.size + 1) [.int .i64 0, .int .i64 0, .slice none 0 0] := by rw [hX]; exact L3.other (j := 2) (by omega) _
          have KX : Kept w X := by rw [hX]; exact K3.setNew (by simp) _
          have hXs : X.heap.size = u4.heap.size := by rw [hX]; simp
          have OX : NumO X (w.heap.size + 2) X.heap.size (.slice (some ⟨g, 0, none⟩) c.2.2.length cg) c.2.2 := by
            rw [hXs, hX]
            exact (o4.but ((But.refl w.heap.size (w.heap.size + 1) u4).setCell (p := ⟨w.heap.size, 2, none⟩) (by simp) (by simp) _) (by omega)).mono (by omega) (Nat.le_refl _)
          rw [← hX]
          clear hX hXs L1 L3 K3 k4 o4 hg
          obtain ⟨N, hN⟩ : ∃ N, X.heap.size = N := ⟨_, rfl⟩
          have NS : w.heap.size + 2 ≤ N := by have := LRR.lt; omega
          rw [hN] at OX
          clear hN
          clear s0 s1 s2 sl sf2 K1 k1
          clear XA YA hgt dgt
          have hM0 : 0 < M := by have : M ≠ 0 := by simpa using dM
                                 omega
          go_loopw [18] (fun i wr => ∃ (k : Nat), (k : Int) ≤ M + 1 ∧ i = .int .i64 k ∧ NumO wr (w.heap.size + 2) N (.slice (some ⟨g, 0, none⟩) c.2.2.length cg) (lineN c x0 y0 x1 y1 col M k) ∧ Loc wr w.heap.size [.int .i64 c.1, .int .i64 c.2.1, .slice (some ⟨g, 0, none⟩) c.2.2.length cg] ∧ Loc wr (w.heap.size + 1) [.int .i64 0, .int .i64 0, .slice none 0 0] ∧ Kept w wr) (fun i _ => (M + 1).toNat - (intOf i).toNat)
          case atStart => exact ⟨0, by omega, rfl, OX, LX, LRR, KX⟩
          case round =>
            clear OX LX LRR KX
            obtain ⟨k, hk, rfl, ho, l1, l3, hk9⟩ := hrel
            have dgt0 : decide (0 < M) = true := decide_eq_true hM0
            by_cases hlt : (k : Int) ≤ M
            · have dk : decide ((k : Int) ≤ M) = true := decide_eq_true hlt
              have hEE := HE.out
              obtain ⟨⟨a1, a2⟩, ⟨a3, a4⟩, ⟨a5, a6⟩, a7, a8⟩ := hEE
              have px := prod_bd (k := k) (d := x1 - x0) (by omega) (by omega)
              have py := prod_bd (k := k) (d := y1 - y0) (by omega) (by omega)
              have ex : 2 * (k : Int) * (x1 - x0) = 2 * ((k : Int) * (x1 - x0)) := Int.mul_assoc 2 _ _
              have ey : 2 * (k : Int) * (y1 - y0) = 2 * ((k : Int) * (y1 - y0)) := Int.mul_assoc 2 _ _
              have qx := div_bd (2 * (k : Int) * (x1 - x0) + M) (2 * M) 1000000000 (by omega) (by omega) (by omega)
              have qy := div_bd (2 * (k : Int) * (y1 - y0) + M) (2 * M) 1000000000 (by omega) (by omega) (by omega)
              have DX : Hid (∀ W, Calls Try.prog 50 #[.int .i64 (2 * (k : Int) * (x1 - x0) + M), .int .i64 (2 * M)] W fun e w' => e = .returned (.int .i64 ((2 * (k : Int) * (x1 - x0) + M) / (2 * M))) ∧ w' = W) := fun W => sdown _ _ W (by omega) (by omega) (by omega) (by omega)
              have DY : Hid (∀ W, Calls Try.prog 50 #[.int .i64 (2 * (k : Int) * (y1 - y0) + M), .int .i64 (2 * M)] W fun e w' => e = .returned (.int .i64 ((2 * (k : Int) * (y1 - y0) + M) / (2 * M))) ∧ w' = W) := fun W => sdown _ _ W (by omega) (by omega) (by omega) (by omega)
              have OXX : onL x0 x1 k M = x0 + (2 * (k : Int) * (x1 - x0) + M) / (2 * M) := by rw [onL, if_neg (by omega), ex]
              have OYY : onL y0 y1 k M = y0 + (2 * (k : Int) * (y1 - y0) + M) / (2 * M) := by rw [onL, if_neg (by omega), ey]
              have HQ : Hid (lineN c x0 y0 x1 y1 col M (k + 1) = putL c.1 c.2.1 (lineN c x0 y0 x1 y1 col M k) (x0 + (2 * (k : Int) * (x1 - x0) + M) / (2 * M)) (y0 + (2 * (k : Int) * (y1 - y0) + M) / (2 * M)) col) := show _ = _ by rw [lineN, OXX, OYY]
              clear OXX OYY
              have w1 : wrap64 (2 * (k : Int) * (x1 - x0)) = 2 * (k : Int) * (x1 - x0) := IntWalk.wrap64_in _ ⟨by omega, by omega⟩
              have w2 : wrap64 (2 * (k : Int) * (y1 - y0)) = 2 * (k : Int) * (y1 - y0) := IntWalk.wrap64_in _ ⟨by omega, by omega⟩
              have w3 : wrap64 (2 * (k : Int) * (x1 - x0) + M) = 2 * (k : Int) * (x1 - x0) + M := IntWalk.wrap64_in _ ⟨by omega, by omega⟩
              have w4 : wrap64 (2 * (k : Int) * (y1 - y0) + M) = 2 * (k : Int) * (y1 - y0) + M := IntWalk.wrap64_in _ ⟨by omega, by omega⟩
              clear ex ey px py
              generalize hqx : (2 * (k : Int) * (x1 - x0) + M) / (2 * M) = QX at *
              generalize hqy : (2 * (k : Int) * (y1 - y0) + M) / (2 * M) = QY at *
              have w5 : wrap64 (x0 + QX) = x0 + QX := IntWalk.wrap64_in _ ⟨by omega, by omega⟩
              have w6 : wrap64 (y0 + QY) = y0 + QY := IntWalk.wrap64_in _ ⟨by omega, by omega⟩
              clear hqx hqy
              have PC : Hid (∀ W, NumO W (w.heap.size + 2) N (.slice (some ⟨g, 0, none⟩) c.2.2.length cg) (lineN c x0 y0 x1 y1 col M k) → Calls Try.prog 47 #[.agg #[.int .i64 c.1, .int .i64 c.2.1, .slice (some ⟨g, 0, none⟩) c.2.2.length cg], .int .i64 (x0 + QX), .int .i64 (y0 + QY), .int .i64 col] W fun e w' => e = .returned (.tuple #[]) ∧ NumO w' (w.heap.size + 2) N (.slice (some ⟨g, 0, none⟩) c.2.2.length cg) (putL c.1 c.2.1 (lineN c x0 y0 x1 y1 col M k) (x0 + QX) (y0 + QY) col) ∧ But g (g + 1) W w') := fun W hW0 => by
                have := sput c.1 c.2.1 (x0 + QX) (y0 + QY) col (lineN c x0 y0 x1 y1 col M k) g cg (w.heap.size + 2) N W (by rw [lineN_len]; exact hW0) hW hH (by rw [lineN_len]; exact HL.out)
                rw [lineN_len] at this
                exact this
              have s0 := l1.cell 0 rfl
              have s1 := l1.cell 1 rfl
              have s2 := l1.cell 2 rfl
              have sl := l1.lt
              have hgl := own_lt ho.1 (g := g) rfl
              have HO : Hid (NumO wr (w.heap.size + 2) N (.slice (some ⟨g, 0, none⟩) c.2.2.length cg) (lineN c x0 y0 x1 y1 col M k)) := ho
              have H1 : Hid (Loc wr w.heap.size [.int .i64 c.1, .int .i64 c.2.1, .slice (some ⟨g, 0, none⟩) c.2.2.length cg]) := l1
              have H3 : Hid (Loc wr (w.heap.size + 1) [.int .i64 0, .int .i64 0, .slice none 0 0]) := l3
              have HK : Hid (Kept w wr) := hk9
              clear ho l1 l3 hk9
              repeat (first | go_values | go_skip | go_guarded | go_step | go_upon)
              refine wp_region_ksp 28 10 (by kernel_rfl) (by kernel_rfl) (by kernel_rfl) (by decide) ?_
              have hcc := @KW.cell_eq
              simp only [List.take_succ_cons, List.take_zero, List.drop_succ_cons, List.drop_zero]
              repeat (first | (go_big_quiet_step (first | (go_at_call 50; first | (with_reducible exact kw_same (DX.out _)) | (with_reducible exact kw_same (DY.out _))))) | (go_big_quiet_want; go_big_quiet_op; refine ⟨_, fun _ => (by with_reducible rfl), ?_⟩; go_big_quiet_on))
              refine wpQuiet_nil ?_
              rintro w8 ⟨⟨w9, k5⟩, h9⟩
              change w8 = w9 at h9
              subst h9
              clear hcc s0 s1 s2 sl
              repeat (first | go_values | go_skip | go_guarded | go_step | go_upon | (go_at_call 47; refine (PC.out _ (HO.out.kept k5)).mono ?_; rintro e u7 ⟨rfl, o7, b7⟩; dsimp only))
              exact ⟨⟨k + 1, by omega, by go_num, by rw [HQ.out]; exact o7, (H1.out.kept k5).but b7 (by omega), (H3.out.kept k5).but b7 (by omega), (HK.out.trans k5).onto b7 (by omega)⟩, by simp [intOf]; omega⟩
            · have hke : k = M.toNat + 1 := by omega
              have dk : decide ((k : Int) ≤ M) = false := decide_eq_false hlt
              have ho : NumO wr (w.heap.size + 2) N (.slice (some ⟨g, 0, none⟩) c.2.2.length cg) (lineN c x0 y0 x1 y1 col M (M.toNat + 1)) := by rw [← hke]; exact ho
              clear hke hlt
              have OF : NumO wr (w.heap.size + 2) N (.slice (some ⟨g, 0, none⟩) c.2.2.length cg) (lineN c x0 y0 x1 y1 col M (M.toNat + 1)) := ho
              have hN := NS
              have s0 := l1.cell 0 rfl
              have s1 := l1.cell 1 rfl
              have s2 := l1.cell 2 rfl
              have sl := l1.lt
              have r0 := l3.cell 0 rfl
              have r1 := l3.cell 1 rfl
              have r2 := l3.cell 2 rfl
              have rl := l3.lt
              have rf0 := l3.frozen 0
              have rf1 := l3.frozen 1
              have rf2 := l3.frozen 2
              have HO : Hid _ := OF
              have HK : Hid (Kept w wr) := hk9
              clear OF ho hk9
              repeat (first | go_values | go_skip | go_guarded | go_step | go_upon)
              have B : But (w.heap.size + 1) (w.heap.size + 2) wr (((wr.setCell ⟨w.heap.size + 1, 0, none⟩ (.int .i64 c.1)).setCell ⟨w.heap.size + 1, 1, none⟩ (.int .i64 c.2.1)).setCell ⟨w.heap.size + 1, 2, none⟩ (.slice (some ⟨g, 0, none⟩) c.2.2.length cg)) :=
                (((But.refl _ _ _).setCell (by simp) (by simp) _).setCell (by simp) (by simp) _).setCell (by simp) (by simp) _
              have LF := ((l3.set 0 (.int .i64 c.1)).set 1 (.int .i64 c.2.1)).set 2 (.slice (some ⟨g, 0, none⟩) c.2.2.length cg)
              have t0 := LF.cell 0 rfl
              have t1 := LF.cell 1 rfl
              have t2 := LF.cell 2 rfl
              refine bodyPost_ret (v := .tuple #[.agg #[.int .i64 c.1, .int .i64 c.2.1, .slice (some ⟨g, 0, none⟩) c.2.2.length cg], .bool true]) (by simp [results, Try.results31, go_sem, t0, t1, t2]) rfl ?_
              exact ⟨_, rfl, ⟨_, by simp only [lineN_len], (NumO.low ((HO.out.but B (by omega)).mono (lo' := w.heap.size) (hi' := N) (by omega) (Nat.le_refl _)))⟩, HK.out.onto B (by omega)⟩
        · have dM : (M == 0) = true := by simpa using dM
          obtain ⟨i0, hi0, hz0, hz1, hz2⟩ := info_parts info_num
          repeat (first
            | (at_builtin
               refine wpList_append_any _ rfl _ _ 34 rfl u2.heap.size 3 i0 (.int .i64 0) 1 8 Try.underlying34 hi0 hz0 hz1 hz2 rfl (by decide) _ _ _ rfl (own_new u2 3) ao c.2.2.length cap (c.2.2.flatMap numC) rfl (flat_len 1 numC numC_len c.2.2) (row_src (hv.row.kept (K2.alloc _))) (ones c.2.2) (by unfold maxLen; omega) (by omega) (by simp) ?_
               intro v4 u4 hown hgrow
               rw [Nat.zero_add, List.nil_append] at hown
               have o4 : NumO u4 u2.heap.size u4.heap.size v4 c.2.2 := RowO.top hown
               obtain ⟨g, cg, ef⟩ := own_some o4 hpos
               subst ef
               have k4 : Kept u2 u4 := ((But.refl _ _ u2).alloc (.cells #[] 3)).grown hgrow (by intro x hx; cases hx; simp)
               have K3 := K2.trans k4
               have hu2 := L3.lt
               clear hgrow hown
               clear s0 s1 s2 sl sf2 r0 r1 r2 rl rf0 rf1 rf2
               have L1 := L1.kept k4
               have L3 := L3.kept k4
               have ne0 : w.heap.size + 2 ≤ g := (by rcases o4.1.2 with ⟨hf, _⟩ | ⟨g', c2, cur, hf, hb, _⟩ <;> cases hf; omega)
               have ne1 : g ≠ w.heap.size := (by omega)
               have s0 := L1.cell 0 rfl
               have s1 := L1.cell 1 rfl
               have s2 := L1.cell 2 rfl
               have sl := L1.lt
               have sf2 := L1.frozen 2)
            | go_values | go_skip | go_guarded | go_step | go_upon | (go_at_call 49; (first | with_reducible refine (XA.out _).mono ?_ | with_reducible refine (YA.out _).mono ?_); rintro e w3 ⟨rfl, hw3⟩; rw [hw3]; clear hw3 w3; dsimp only))
          obtain ⟨X, hX⟩ : ∃ X, X = u4.setCell ⟨w.heap.size, 2, none⟩ (.slice (some ⟨g, 0, none⟩) c.2.2.length cg) := ⟨_, rfl⟩
          have hg := own_lt o4.1 (g := g) rfl
          have LX : Loc X w.heap.size [.int .i64 c.1, .int .i64 c.2.1, .slice (some ⟨g, 0, none⟩) c.2.2.length cg] := by rw [hX]; exact L1.set 2 _
          have LRR : Loc X (w.heap.size + 1) [.int .i64 0, .int .i64 0, .slice none 0 0] := by rw [hX]; exact L3.other (j := 2) (by omega) _
          have KX : Kept w X := by rw [hX]; exact K3.setNew (by simp) _
          have hXs : X.heap.size = u4.heap.size := by rw [hX]; simp
          have OX : NumO X (w.heap.size + 2) X.heap.size (.slice (some ⟨g, 0, none⟩) c.2.2.length cg) c.2.2 := by
            rw [hXs, hX]
            exact (o4.but ((But.refl w.heap.size (w.heap.size + 1) u4).setCell (p := ⟨w.heap.size, 2, none⟩) (by simp) (by simp) _) (by omega)).mono (by omega) (Nat.le_refl _)
          rw [← hX]
          clear hX hXs L1 L3 K3 k4 o4 hg
          obtain ⟨N, hN⟩ : ∃ N, X.heap.size = N := ⟨_, rfl⟩
          have NS : w.heap.size + 2 ≤ N := by have := LRR.lt; omega
          rw [hN] at OX
          clear hN
          clear s0 s1 s2 sl sf2 K1 k1
          clear XA YA hgt dgt
          have hM0 : M = 0 := by simpa using dM
          have HM0 : Hid (M = 0) := hM0
          clear hM0
          have PC : Hid (∀ W, NumO W (w.heap.size + 2) N (.slice (some ⟨g, 0, none⟩) c.2.2.length cg) (lineN c x0 y0 x1 y1 col M 0) → Calls Try.prog 47 #[.agg #[.int .i64 c.1, .int .i64 c.2.1, .slice (some ⟨g, 0, none⟩) c.2.2.length cg], .int .i64 x0, .int .i64 y0, .int .i64 col] W fun e w' => e = .returned (.tuple #[]) ∧ NumO w' (w.heap.size + 2) N (.slice (some ⟨g, 0, none⟩) c.2.2.length cg) (putL c.1 c.2.1 (lineN c x0 y0 x1 y1 col M 0) x0 y0 col) ∧ But g (g + 1) W w') := fun W hW0 => by
            have := sput c.1 c.2.1 x0 y0 col (lineN c x0 y0 x1 y1 col M 0) g cg (w.heap.size + 2) N W (by rw [lineN_len]; exact hW0) hW hH (by rw [lineN_len]; exact HL.out)
            rw [lineN_len] at this
            exact this
          have HZ : Hid (lineN c x0 y0 x1 y1 col M 1 = putL c.1 c.2.1 (lineN c x0 y0 x1 y1 col M 0) x0 y0 col) := show _ = _ by
            have h0 := HM0.out
            have h1 : lineN c x0 y0 x1 y1 col M 1 = putL c.1 c.2.1 (lineN c x0 y0 x1 y1 col M 0) (onL x0 x1 ((0 : Nat) : Int) M) (onL y0 y1 ((0 : Nat) : Int) M) col := rfl
            rw [h1, show onL x0 x1 ((0 : Nat) : Int) M = x0 from if_pos h0, show onL y0 y1 ((0 : Nat) : Int) M = y0 from if_pos h0]
          have s0 := LX.cell 0 rfl
          have s1 := LX.cell 1 rfl
          have s2 := LX.cell 2 rfl
          have sl := LX.lt
          have hgl := own_lt OX.1 (g := g) rfl
          have HOX : Hid (NumO X (w.heap.size + 2) N (.slice (some ⟨g, 0, none⟩) c.2.2.length cg) (lineN c x0 y0 x1 y1 col M 0)) := OX
          have HLX : Hid (Loc X w.heap.size [.int .i64 c.1, .int .i64 c.2.1, .slice (some ⟨g, 0, none⟩) c.2.2.length cg]) := LX
          have HLR : Hid (Loc X (w.heap.size + 1) [.int .i64 0, .int .i64 0, .slice none 0 0]) := LRR
          have HKX : Hid (Kept w X) := KX
          clear OX LX LRR KX
          repeat (first | go_values | go_skip | go_guarded | go_step | go_upon | (go_at_call 47; refine (PC.out _ HOX.out).mono ?_; rintro e u7 ⟨rfl, o7, b7⟩; dsimp only))
          clear s0 s1 s2 sl
          go_loopw [18] (fun i wr => i = .int .i64 0 ∧ wr = u7) (fun i _ => 0)
          case atStart => exact ⟨rfl, rfl⟩
          case round =>
            obtain ⟨rfl, rfl⟩ := hrel
            have l1 := HLX.out.but b7 (by omega)
            have l3 := HLR.out.but b7 (by omega)
            have hk9 := HKX.out.onto b7 (by omega)
            have h1 : M.toNat + 1 = 1 := by have := HM0.out; omega
            have dle : decide (0 ≤ M) = true := decide_eq_true (by have := HM0.out; omega)
            have dgt0 : decide (0 < M) = false := decide_eq_false (by have := HM0.out; omega)
            have ho : NumO wr (w.heap.size + 2) N (.slice (some ⟨g, 0, none⟩) c.2.2.length cg) (lineN c x0 y0 x1 y1 col M (M.toNat + 1)) := by rw [h1, HZ.out]; exact o7
            clear o7 b7 h1 PC HOX
            have OF : NumO wr (w.heap.size + 2) N (.slice (some ⟨g, 0, none⟩) c.2.2.length cg) (lineN c x0 y0 x1 y1 col M (M.toNat + 1)) := ho
            have hN := NS
            have s0 := l1.cell 0 rfl
            have s1 := l1.cell 1 rfl
            have s2 := l1.cell 2 rfl
            have sl := l1.lt
            have r0 := l3.cell 0 rfl
            have r1 := l3.cell 1 rfl
            have r2 := l3.cell 2 rfl
            have rl := l3.lt
            have rf0 := l3.frozen 0
            have rf1 := l3.frozen 1
            have rf2 := l3.frozen 2
            have HO : Hid _ := OF
            have HK : Hid (Kept w wr) := hk9
            clear OF ho hk9
            repeat (first | go_values | go_skip | go_guarded | go_step | go_upon)
            have B : But (w.heap.size + 1) (w.heap.size + 2) wr (((wr.setCell ⟨w.heap.size + 1, 0, none⟩ (.int .i64 c.1)).setCell ⟨w.heap.size + 1, 1, none⟩ (.int .i64 c.2.1)).setCell ⟨w.heap.size + 1, 2, none⟩ (.slice (some ⟨g, 0, none⟩) c.2.2.length cg)) :=
              (((But.refl _ _ _).setCell (by simp) (by simp) _).setCell (by simp) (by simp) _).setCell (by simp) (by simp) _
            have LF := ((l3.set 0 (.int .i64 c.1)).set 1 (.int .i64 c.2.1)).set 2 (.slice (some ⟨g, 0, none⟩) c.2.2.length cg)
            have t0 := LF.cell 0 rfl
            have t1 := LF.cell 1 rfl
            have t2 := LF.cell 2 rfl
            refine bodyPost_ret (v := .tuple #[.agg #[.int .i64 c.1, .int .i64 c.2.1, .slice (some ⟨g, 0, none⟩) c.2.2.length cg], .bool true]) (by simp [results, Try.results31, go_sem, t0, t1, t2]) rfl ?_
            exact ⟨_, rfl, ⟨_, by simp only [lineN_len], (NumO.low ((HO.out.but B (by omega)).mono (lo' := w.heap.size) (hi' := N) (by omega) (Nat.le_refl _)))⟩, HK.out.onto B (by omega)⟩
      · obtain ⟨q9, hq9⟩ : ∃ q, absM (x1 - x0) = q := ⟨_, rfl⟩
        have hq8 : absM (y1 - y0) = M := by rw [← hM]; unfold stepsM; omega
        rw [hq9, hq8] at hgt
        rw [hq9] at XA
        rw [hq8] at YA
        have dgt : decide (q9 < M) = true := decide_eq_true hgt
        clear hL hE hM hdC HM ab1 ab2 hq8 hq9
        rcases (Decidable.em (M = 0)).symm with dM | dM
        · have dM : (M == 0) = false := by simpa using dM
          obtain ⟨i0, hi0, hz0, hz1, hz2⟩ := info_parts info_num
          repeat (first
            | (at_builtin
               refine wpList_append_any _ rfl _ _ 34 rfl u2.heap.size 3 i0 (.int .i64 0) 1 8 Try.underlying34 hi0 hz0 hz1 hz2 rfl (by decide) _ _ _ rfl (own_new u2 3) ao c.2.2.length cap (c.2.2.flatMap numC) rfl (flat_len 1 numC numC_len c.2.2) (row_src (hv.row.kept (K2.alloc _))) (ones c.2.2) (by unfold maxLen; omega) (by omega) (by simp) ?_
               intro v4 u4 hown hgrow
               rw [Nat.zero_add, List.nil_append] at hown
               have o4 : NumO u4 u2.heap.size u4.heap.size v4 c.2.2 := RowO.top hown
               obtain ⟨g, cg, ef⟩ := own_some o4 hpos
               subst ef
               have k4 : Kept u2 u4 := ((But.refl _ _ u2).alloc (.cells #[] 3)).grown hgrow (by intro x hx; cases hx; simp)
               have K3 := K2.trans k4
               have hu2 := L3.lt
               clear hgrow hown
               clear s0 s1 s2 sl sf2 r0 r1 r2 rl rf0 rf1 rf2
               have L1 := L1.kept k4
               have L3 := L3.kept k4
               have ne0 : w.heap.size + 2 ≤ g := (by rcases o4.1.2 with ⟨hf, _⟩ | ⟨g', c2, cur, hf, hb, _⟩ <;> cases hf; omega)
               have ne1 : g ≠ w.heap.size := (by omega)
               have s0 := L1.cell 0 rfl
               have s1 := L1.cell 1 rfl
               have s2 := L1.cell 2 rfl
               have sl := L1.lt
               have sf2 := L1.frozen 2)
            | go_values | go_skip | go_guarded | go_step | go_upon | (go_at_call 49; (first | with_reducible refine (XA.out _).mono ?_ | with_reducible refine (YA.out _).mono ?_); rintro e w3 ⟨rfl, hw3⟩; rw [hw3]; clear hw3 w3; dsimp only))
          obtain ⟨X, hX⟩ : ∃ X, X = u4.setCell ⟨w.heap.size, 2, none⟩ (.slice (some ⟨g, 0, none⟩) c.2.2.length cg) := ⟨_, rfl⟩
          have hg := own_lt o4.1 (g := g) rfl
          have LX : Loc X w.heap.size [.int .i64 c.1, .int .i64 c.2.1, .slice (some ⟨g, 0, none⟩) c.2.2.length cg] := by rw [hX]; exact L1.set 2 _
          have LRR : Loc X (w.heap.size + 1) [.int .i64 0, .int .i64 0, .slice none 0 0] := by rw [hX]; exact L3.other (j := 2) (by omega) _
          have KX : Kept w X := by rw [hX]; exact K3.setNew (by simp) _
          have hXs : X.heap.size = u4.heap.size := by rw [hX]; simp
          have OX : NumO X (w.heap.size + 2) X.heap.size (.slice (some ⟨g, 0, none⟩) c.2.2.length cg) c.2.2 := by
            rw [hXs, hX]
            exact (o4.but ((But.refl w.heap.size (w.heap.size + 1) u4).setCell (p := ⟨w.heap.size, 2, none⟩) (by simp) (by simp) _) (by omega)).mono (by omega) (Nat.le_refl _)
          rw [← hX]
          clear hX hXs L1 L3 K3 k4 o4 hg
          obtain ⟨N, hN⟩ : ∃ N, X.heap.size = N := ⟨_, rfl⟩
          have NS : w.heap.size + 2 ≤ N := by have := LRR.lt; omega
          rw [hN] at OX
          clear hN
          clear s0 s1 s2 sl sf2 K1 k1
          clear XA YA hgt dgt
          have hM0 : 0 < M := by have : M ≠ 0 := by simpa using dM
                                 omega
          go_loopw [18] (fun i wr => ∃ (k : Nat), (k : Int) ≤ M + 1 ∧ i = .int .i64 k ∧ NumO wr (w.heap.size + 2) N (.slice (some ⟨g, 0, none⟩) c.2.2.length cg) (lineN c x0 y0 x1 y1 col M k) ∧ Loc wr w.heap.size [.int .i64 c.1, .int .i64 c.2.1, .slice (some ⟨g, 0, none⟩) c.2.2.length cg] ∧ Loc wr (w.heap.size + 1) [.int .i64 0, .int .i64 0, .slice none 0 0] ∧ Kept w wr) (fun i _ => (M + 1).toNat - (intOf i).toNat)
          case atStart => exact ⟨0, by omega, rfl, OX, LX, LRR, KX⟩
          case round =>
            clear OX LX LRR KX
            obtain ⟨k, hk, rfl, ho, l1, l3, hk9⟩ := hrel
            have dgt0 : decide (0 < M) = true := decide_eq_true hM0
            by_cases hlt : (k : Int) ≤ M
            · have dk : decide ((k : Int) ≤ M) = true := decide_eq_true hlt
              have hEE := HE.out
              obtain ⟨⟨a1, a2⟩, ⟨a3, a4⟩, ⟨a5, a6⟩, a7, a8⟩ := hEE
              have px := prod_bd (k := k) (d := x1 - x0) (by omega) (by omega)
              have py := prod_bd (k := k) (d := y1 - y0) (by omega) (by omega)
              have ex : 2 * (k : Int) * (x1 - x0) = 2 * ((k : Int) * (x1 - x0)) := Int.mul_assoc 2 _ _
              have ey : 2 * (k : Int) * (y1 - y0) = 2 * ((k : Int) * (y1 - y0)) := Int.mul_assoc 2 _ _
              have qx := div_bd (2 * (k : Int) * (x1 - x0) + M) (2 * M) 1000000000 (by omega) (by omega) (by omega)
              have qy := div_bd (2 * (k : Int) * (y1 - y0) + M) (2 * M) 1000000000 (by omega) (by omega) (by omega)
              have DX : Hid (∀ W, Calls Try.prog 50 #[.int .i64 (2 * (k : Int) * (x1 - x0) + M), .int .i64 (2 * M)] W fun e w' => e = .returned (.int .i64 ((2 * (k : Int) * (x1 - x0) + M) / (2 * M))) ∧ w' = W) := fun W => sdown _ _ W (by omega) (by omega) (by omega) (by omega)
              have DY : Hid (∀ W, Calls Try.prog 50 #[.int .i64 (2 * (k : Int) * (y1 - y0) + M), .int .i64 (2 * M)] W fun e w' => e = .returned (.int .i64 ((2 * (k : Int) * (y1 - y0) + M) / (2 * M))) ∧ w' = W) := fun W => sdown _ _ W (by omega) (by omega) (by omega) (by omega)
              have OXX : onL x0 x1 k M = x0 + (2 * (k : Int) * (x1 - x0) + M) / (2 * M) := by rw [onL, if_neg (by omega), ex]
              have OYY : onL y0 y1 k M = y0 + (2 * (k : Int) * (y1 - y0) + M) / (2 * M) := by rw [onL, if_neg (by omega), ey]
              have HQ : Hid (lineN c x0 y0 x1 y1 col M (k + 1) = putL c.1 c.2.1 (lineN c x0 y0 x1 y1 col M k) (x0 + (2 * (k : Int) * (x1 - x0) + M) / (2 * M)) (y0 + (2 * (k : Int) * (y1 - y0) + M) / (2 * M)) col) := show _ = _ by rw [lineN, OXX, OYY]
              clear OXX OYY
              have w1 : wrap64 (2 * (k : Int) * (x1 - x0)) = 2 * (k : Int) * (x1 - x0) := IntWalk.wrap64_in _ ⟨by omega, by omega⟩
              have w2 : wrap64 (2 * (k : Int) * (y1 - y0)) = 2 * (k : Int) * (y1 - y0) := IntWalk.wrap64_in _ ⟨by omega, by omega⟩
              have w3 : wrap64 (2 * (k : Int) * (x1 - x0) + M) = 2 * (k : Int) * (x1 - x0) + M := IntWalk.wrap64_in _ ⟨by omega, by omega⟩
              have w4 : wrap64 (2 * (k : Int) * (y1 - y0) + M) = 2 * (k : Int) * (y1 - y0) + M := IntWalk.wrap64_in _ ⟨by omega, by omega⟩
              clear ex ey px py
              generalize hqx : (2 * (k : Int) * (x1 - x0) + M) / (2 * M) = QX at *
              generalize hqy : (2 * (k : Int) * (y1 - y0) + M) / (2 * M) = QY at *
              have w5 : wrap64 (x0 + QX) = x0 + QX := IntWalk.wrap64_in _ ⟨by omega, by omega⟩
              have w6 : wrap64 (y0 + QY) = y0 + QY := IntWalk.wrap64_in _ ⟨by omega, by omega⟩
              clear hqx hqy
              have PC : Hid (∀ W, NumO W (w.heap.size + 2) N (.slice (some ⟨g, 0, none⟩) c.2.2.length cg) (lineN c x0 y0 x1 y1 col M k) → Calls Try.prog 47 #[.agg #[.int .i64 c.1, .int .i64 c.2.1, .slice (some ⟨g, 0, none⟩) c.2.2.length cg], .int .i64 (x0 + QX), .int .i64 (y0 + QY), .int .i64 col] W fun e w' => e = .returned (.tuple #[]) ∧ NumO w' (w.heap.size + 2) N (.slice (some ⟨g, 0, none⟩) c.2.2.length cg) (putL c.1 c.2.1 (lineN c x0 y0 x1 y1 col M k) (x0 + QX) (y0 + QY) col) ∧ But g (g + 1) W w') := fun W hW0 => by
                have := sput c.1 c.2.1 (x0 + QX) (y0 + QY) col (lineN c x0 y0 x1 y1 col M k) g cg (w.heap.size + 2) N W (by rw [lineN_len]; exact hW0) hW hH (by rw [lineN_len]; exact HL.out)
                rw [lineN_len] at this
                exact this
              have s0 := l1.cell 0 rfl
              have s1 := l1.cell 1 rfl
              have s2 := l1.cell 2 rfl
              have sl := l1.lt
              have hgl := own_lt ho.1 (g := g) rfl
              have HO : Hid (NumO wr (w.heap.size + 2) N (.slice (some ⟨g, 0, none⟩) c.2.2.length cg) (lineN c x0 y0 x1 y1 col M k)) := ho
              have H1 : Hid (Loc wr w.heap.size [.int .i64 c.1, .int .i64 c.2.1, .slice (some ⟨g, 0, none⟩) c.2.2.length cg]) := l1
              have H3 : Hid (Loc wr (w.heap.size + 1) [.int .i64 0, .int .i64 0, .slice none 0 0]) := l3
              have HK : Hid (Kept w wr) := hk9
              clear ho l1 l3 hk9
              repeat (first | go_values | go_skip | go_guarded | go_step | go_upon)
              refine wp_region_ksp 28 10 (by kernel_rfl) (by kernel_rfl) (by kernel_rfl) (by decide) ?_
              have hcc := @KW.cell_eq
              simp only [List.take_succ_cons, List.take_zero, List.drop_succ_cons, List.drop_zero]
              repeat (first | (go_big_quiet_step (first | (go_at_call 50; first | (with_reducible exact kw_same (DX.out _)) | (with_reducible exact kw_same (DY.out _))))) | (go_big_quiet_want; go_big_quiet_op; refine ⟨_, fun _ => (by with_reducible rfl), ?_⟩; go_big_quiet_on))
              refine wpQuiet_nil ?_
              rintro w8 ⟨⟨w9, k5⟩, h9⟩
              change w8 = w9 at h9
              subst h9
              clear hcc s0 s1 s2 sl
              repeat (first | go_values | go_skip | go_guarded | go_step | go_upon | (go_at_call 47; refine (PC.out _ (HO.out.kept k5)).mono ?_; rintro e u7 ⟨rfl, o7, b7⟩; dsimp only))
              exact ⟨⟨k + 1, by omega, by go_num, by rw [HQ.out]; exact o7, (H1.out.kept k5).but b7 (by omega), (H3.out.kept k5).but b7 (by omega), (HK.out.trans k5).onto b7 (by omega)⟩, by simp [intOf]; omega⟩
            · have hke : k = M.toNat + 1 := by omega
              have dk : decide ((k : Int) ≤ M) = false := decide_eq_false hlt
              have ho : NumO wr (w.heap.size + 2) N (.slice (some ⟨g, 0, none⟩) c.2.2.length cg) (lineN c x0 y0 x1 y1 col M (M.toNat + 1)) := by rw [← hke]; exact ho
              clear hke hlt
              have OF : NumO wr (w.heap.size + 2) N (.slice (some ⟨g, 0, none⟩) c.2.2.length cg) (lineN c x0 y0 x1 y1 col M (M.toNat + 1)) := ho
              have hN := NS
              have s0 := l1.cell 0 rfl
              have s1 := l1.cell 1 rfl
              have s2 := l1.cell 2 rfl
              have sl := l1.lt
              have r0 := l3.cell 0 rfl
              have r1 := l3.cell 1 rfl
              have r2 := l3.cell 2 rfl
              have rl := l3.lt
              have rf0 := l3.frozen 0
              have rf1 := l3.frozen 1
              have rf2 := l3.frozen 2
              have HO : Hid _ := OF
              have HK : Hid (Kept w wr) := hk9
              clear OF ho hk9
              repeat (first | go_values | go_skip | go_guarded | go_step | go_upon)
              have B : But (w.heap.size + 1) (w.heap.size + 2) wr (((wr.setCell ⟨w.heap.size + 1, 0, none⟩ (.int .i64 c.1)).setCell ⟨w.heap.size + 1, 1, none⟩ (.int .i64 c.2.1)).setCell ⟨w.heap.size + 1, 2, none⟩ (.slice (some ⟨g, 0, none⟩) c.2.2.length cg)) :=
                (((But.refl _ _ _).setCell (by simp) (by simp) _).setCell (by simp) (by simp) _).setCell (by simp) (by simp) _
              have LF := ((l3.set 0 (.int .i64 c.1)).set 1 (.int .i64 c.2.1)).set 2 (.slice (some ⟨g, 0, none⟩) c.2.2.length cg)
              have t0 := LF.cell 0 rfl
              have t1 := LF.cell 1 rfl
              have t2 := LF.cell 2 rfl
              refine bodyPost_ret (v := .tuple #[.agg #[.int .i64 c.1, .int .i64 c.2.1, .slice (some ⟨g, 0, none⟩) c.2.2.length cg], .bool true]) (by simp [results, Try.results31, go_sem, t0, t1, t2]) rfl ?_
              exact ⟨_, rfl, ⟨_, by simp only [lineN_len], (NumO.low ((HO.out.but B (by omega)).mono (lo' := w.heap.size) (hi' := N) (by omega) (Nat.le_refl _)))⟩, HK.out.onto B (by omega)⟩
        · have dM : (M == 0) = true := by simpa using dM
          obtain ⟨i0, hi0, hz0, hz1, hz2⟩ := info_parts info_num
          repeat (first
            | (at_builtin
               refine wpList_append_any _ rfl _ _ 34 rfl u2.heap.size 3 i0 (.int .i64 0) 1 8 Try.underlying34 hi0 hz0 hz1 hz2 rfl (by decide) _ _ _ rfl (own_new u2 3) ao c.2.2.length cap (c.2.2.flatMap numC) rfl (flat_len 1 numC numC_len c.2.2) (row_src (hv.row.kept (K2.alloc _))) (ones c.2.2) (by unfold maxLen; omega) (by omega) (by simp) ?_
               intro v4 u4 hown hgrow
               rw [Nat.zero_add, List.nil_append] at hown
               have o4 : NumO u4 u2.heap.size u4.heap.size v4 c.2.2 := RowO.top hown
               obtain ⟨g, cg, ef⟩ := own_some o4 hpos
               subst ef
               have k4 : Kept u2 u4 := ((But.refl _ _ u2).alloc (.cells #[] 3)).grown hgrow (by intro x hx; cases hx; simp)
               have K3 := K2.trans k4
               have hu2 := L3.lt
               clear hgrow hown
               clear s0 s1 s2 sl sf2 r0 r1 r2 rl rf0 rf1 rf2
               have L1 := L1.kept k4
               have L3 := L3.kept k4
               have ne0 : w.heap.size + 2 ≤ g := (by rcases o4.1.2 with ⟨hf, _⟩ | ⟨g', c2, cur, hf, hb, _⟩ <;> cases hf; omega)
               have ne1 : g ≠ w.heap.size := (by omega)
               have s0 := L1.cell 0 rfl
               have s1 := L1.cell 1 rfl
               have s2 := L1.cell 2 rfl
               have sl := L1.lt
               have sf2 := L1.frozen 2)
            | go_values | go_skip | go_guarded | go_step | go_upon | (go_at_call 49; (first | with_reducible refine (XA.out _).mono ?_ | with_reducible refine (YA.out _).mono ?_); rintro e w3 ⟨rfl, hw3⟩; rw [hw3]; clear hw3 w3; dsimp only))
          obtain ⟨X, hX⟩ : ∃ X, X = u4.setCell ⟨w.heap.size, 2, none⟩ (.slice (some ⟨g, 0, none⟩) c.2.2.length cg) := ⟨_, rfl⟩
          have hg := own_lt o4.1 (g := g) rfl
          have LX : Loc X w.heap.size [.int .i64 c.1, .int .i64 c.2.1, .slice (some ⟨g, 0, none⟩) c.2.2.length cg] := by rw [hX]; exact L1.set 2 _
          have LRR : Loc X (w.heap.size + 1) [.int .i64 0, .int .i64 0, .slice none 0 0] := by rw [hX]; exact L3.other (j := 2) (by omega) _
          have KX : Kept w X := by rw [hX]; exact K3.setNew (by simp) _
          have hXs : X.heap.size = u4.heap.size := by rw [hX]; simp
          have OX : NumO X (w.heap.size + 2) X.heap.size (.slice (some ⟨g, 0, none⟩) c.2.2.length cg) c.2.2 := by
            rw [hXs, hX]
            exact (o4.but ((But.refl w.heap.size (w.heap.size + 1) u4).setCell (p := ⟨w.heap.size, 2, none⟩) (by simp) (by simp) _) (by omega)).mono (by omega) (Nat.le_refl _)
          rw [← hX]
          clear hX hXs L1 L3 K3 k4 o4 hg
          obtain ⟨N, hN⟩ : ∃ N, X.heap.size = N := ⟨_, rfl⟩
          have NS : w.heap.size + 2 ≤ N := by have := LRR.lt; omega
          rw [hN] at OX
          clear hN
          clear s0 s1 s2 sl sf2 K1 k1
          clear XA YA hgt dgt
          have hM0 : M = 0 := by simpa using dM
          have HM0 : Hid (M = 0) := hM0
          clear hM0
          have PC : Hid (∀ W, NumO W (w.heap.size + 2) N (.slice (some ⟨g, 0, none⟩) c.2.2.length cg) (lineN c x0 y0 x1 y1 col M 0) → Calls Try.prog 47 #[.agg #[.int .i64 c.1, .int .i64 c.2.1, .slice (some ⟨g, 0, none⟩) c.2.2.length cg], .int .i64 x0, .int .i64 y0, .int .i64 col] W fun e w' => e = .returned (.tuple #[]) ∧ NumO w' (w.heap.size + 2) N (.slice (some ⟨g, 0, none⟩) c.2.2.length cg) (putL c.1 c.2.1 (lineN c x0 y0 x1 y1 col M 0) x0 y0 col) ∧ But g (g + 1) W w') := fun W hW0 => by
            have := sput c.1 c.2.1 x0 y0 col (lineN c x0 y0 x1 y1 col M 0) g cg (w.heap.size + 2) N W (by rw [lineN_len]; exact hW0) hW hH (by rw [lineN_len]; exact HL.out)
            rw [lineN_len] at this
            exact this
          have HZ : Hid (lineN c x0 y0 x1 y1 col M 1 = putL c.1 c.2.1 (lineN c x0 y0 x1 y1 col M 0) x0 y0 col) := show _ = _ by
            have h0 := HM0.out
            have h1 : lineN c x0 y0 x1 y1 col M 1 = putL c.1 c.2.1 (lineN c x0 y0 x1 y1 col M 0) (onL x0 x1 ((0 : Nat) : Int) M) (onL y0 y1 ((0 : Nat) : Int) M) col := rfl
            rw [h1, show onL x0 x1 ((0 : Nat) : Int) M = x0 from if_pos h0, show onL y0 y1 ((0 : Nat) : Int) M = y0 from if_pos h0]
          have s0 := LX.cell 0 rfl
          have s1 := LX.cell 1 rfl
          have s2 := LX.cell 2 rfl
          have sl := LX.lt
          have hgl := own_lt OX.1 (g := g) rfl
          have HOX : Hid (NumO X (w.heap.size + 2) N (.slice (some ⟨g, 0, none⟩) c.2.2.length cg) (lineN c x0 y0 x1 y1 col M 0)) := OX
          have HLX : Hid (Loc X w.heap.size [.int .i64 c.1, .int .i64 c.2.1, .slice (some ⟨g, 0, none⟩) c.2.2.length cg]) := LX
          have HLR : Hid (Loc X (w.heap.size + 1) [.int .i64 0, .int .i64 0, .slice none 0 0]) := LRR
          have HKX : Hid (Kept w X) := KX
          clear OX LX LRR KX
          repeat (first | go_values | go_skip | go_guarded | go_step | go_upon | (go_at_call 47; refine (PC.out _ HOX.out).mono ?_; rintro e u7 ⟨rfl, o7, b7⟩; dsimp only))
          clear s0 s1 s2 sl
          go_loopw [18] (fun i wr => i = .int .i64 0 ∧ wr = u7) (fun i _ => 0)
          case atStart => exact ⟨rfl, rfl⟩
          case round =>
            obtain ⟨rfl, rfl⟩ := hrel
            have l1 := HLX.out.but b7 (by omega)
            have l3 := HLR.out.but b7 (by omega)
            have hk9 := HKX.out.onto b7 (by omega)
            have h1 : M.toNat + 1 = 1 := by have := HM0.out; omega
            have dle : decide (0 ≤ M) = true := decide_eq_true (by have := HM0.out; omega)
            have dgt0 : decide (0 < M) = false := decide_eq_false (by have := HM0.out; omega)
            have ho : NumO wr (w.heap.size + 2) N (.slice (some ⟨g, 0, none⟩) c.2.2.length cg) (lineN c x0 y0 x1 y1 col M (M.toNat + 1)) := by rw [h1, HZ.out]; exact o7
            clear o7 b7 h1 PC HOX
            have OF : NumO wr (w.heap.size + 2) N (.slice (some ⟨g, 0, none⟩) c.2.2.length cg) (lineN c x0 y0 x1 y1 col M (M.toNat + 1)) := ho
            have hN := NS
            have s0 := l1.cell 0 rfl
            have s1 := l1.cell 1 rfl
            have s2 := l1.cell 2 rfl
            have sl := l1.lt
            have r0 := l3.cell 0 rfl
            have r1 := l3.cell 1 rfl
            have r2 := l3.cell 2 rfl
            have rl := l3.lt
            have rf0 := l3.frozen 0
            have rf1 := l3.frozen 1
            have rf2 := l3.frozen 2
            have HO : Hid _ := OF
            have HK : Hid (Kept w wr) := hk9
            clear OF ho hk9
            repeat (first | go_values | go_skip | go_guarded | go_step | go_upon)
            have B : But (w.heap.size + 1) (w.heap.size + 2) wr (((wr.setCell ⟨w.heap.size + 1, 0, none⟩ (.int .i64 c.1)).setCell ⟨w.heap.size + 1, 1, none⟩ (.int .i64 c.2.1)).setCell ⟨w.heap.size + 1, 2, none⟩ (.slice (some ⟨g, 0, none⟩) c.2.2.length cg)) :=
              (((But.refl _ _ _).setCell (by simp) (by simp) _).setCell (by simp) (by simp) _).setCell (by simp) (by simp) _
            have LF := ((l3.set 0 (.int .i64 c.1)).set 1 (.int .i64 c.2.1)).set 2 (.slice (some ⟨g, 0, none⟩) c.2.2.length cg)
            have t0 := LF.cell 0 rfl
            have t1 := LF.cell 1 rfl
            have t2 := LF.cell 2 rfl
            refine bodyPost_ret (v := .tuple #[.agg #[.int .i64 c.1, .int .i64 c.2.1, .slice (some ⟨g, 0, none⟩) c.2.2.length cg], .bool true]) (by simp [results, Try.results31, go_sem, t0, t1, t2]) rfl ?_
            exact ⟨_, rfl, ⟨_, by simp only [lineN_len], (NumO.low ((HO.out.but B (by omega)).mono (lo' := w.heap.size) (hi' := N) (by omega) (Nat.le_refl _)))⟩, HK.out.onto B (by omega)⟩

end Go.Proofs.Ytoimpkhgdpkhkaa
