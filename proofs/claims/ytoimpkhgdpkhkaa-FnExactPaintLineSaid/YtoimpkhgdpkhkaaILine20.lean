/-
  A line painted, in the program.
-/
import Derived.Test.YtoimpkhgdpkhkaaLine20
namespace Go.Proofs.Ytoimpkhgdpkhkaa
open Go.ChangeShapes Go.WideShapes Go.ChangeAt Go.RowKit

set_option maxRecDepth 100000
set_option linter.unusedVariables false
set_option linter.unusedSimpArgs false

set_option maxHeartbeats 16000000 in
theorem iline (c : SheetD) (x0 y0 x1 y1 col : Int) (v : Value) (w : World) (hv : SheetAt w v c) (hn : c.2.2.length ≤ 1048576) :
    Calls Try.prog 32 #[v, .int .i64 x0, .int .i64 y0, .int .i64 x1, .int .i64 y1, .int .i64 col] w fun e w' => ∃ v', e = .returned (.tuple #[v', .bool (lineA c x0 y0 x1 y1 col).2]) ∧ SheetO w' w.heap.size w'.heap.size v' (lineA c x0 y0 x1 y1 col).1 ∧ Kept w w' := by
  obtain ⟨ao, cap, hfm⟩ := hv.form
  subst hfm
  rcases (Decidable.em (SheetP c)).symm with hdP | hdP
  · rw [show lineA c x0 y0 x1 y1 col = ((0, 0, []), false) from if_neg (fun h => hdP h.1)]
    have dP : decide (SheetP c) = false := decide_eq_false hdP
    clear hdP
    go_enter Try.func32, Try.ntmps32
    repeat (first | (go_at_call 25; refine (igood c _ _ (hv.kept (((But.refl _ _ _).alloc _).alloc _)) (by omega)).mono ?_; rintro e u1 ⟨rfl, k1⟩; rw [dP]; have K1 : Kept w u1 := (((But.refl _ _ _).alloc _).alloc _).trans k1; have L1 := ((Loc.new w [.int .i64 c.1, .int .i64 c.2.1, .slice ao c.2.2.length cap] 49).alloc (.cells #[.int .i64 0, .int .i64 0, .slice none 0 0] 49)).kept k1; have L3 := (Loc.new (w.alloc (.cells #[.int .i64 c.1, .int .i64 c.2.1, .slice ao c.2.2.length cap] 49)) [.int .i64 0, .int .i64 0, .slice none 0 0] 49).kept k1; simp only [World.size_alloc] at L3; have r0 := L3.cell 0 rfl; have r1 := L3.cell 1 rfl; have r2 := L3.cell 2 rfl; have rl := L3.lt; have rf0 := L3.frozen 0; have rf1 := L3.frozen 1; have rf2 := L3.frozen 2; have s0 := L1.cell 0 rfl; have s1 := L1.cell 1 rfl; have s2 := L1.cell 2 rfl; have sl := L1.lt; have sf2 := L1.frozen 2; dsimp only) | go_values | go_skip | go_guarded | go_step | go_upon)
    refine bodyPost_ret (v := .tuple #[.agg #[.int .i64 0, .int .i64 0, .slice none 0 0], .bool false]) (by simp [results, Try.results32, go_sem, *]) rfl ?_
    exact ⟨_, rfl, no_sheet _ _ _, ((K1.setNew (by simp) _).setNew (by simp) _).setNew (by simp) _⟩
  have dP : decide (SheetP c) = true := decide_eq_true hdP
  rcases (Decidable.em (-10000 ≤ x0 ∧ x0 ≤ 10000)).symm with hdx0 | hdx0
  · rw [show lineA c x0 y0 x1 y1 col = ((0, 0, []), false) from if_neg (fun h => hdx0 h.2.1.1)]
    have dx0 : decide (-10000 ≤ x0 ∧ x0 ≤ 10000) = false := decide_eq_false hdx0
    clear hdx0
    go_enter Try.func32, Try.ntmps32
    repeat (first | (go_at_call 25; refine (igood c _ _ (hv.kept (((But.refl _ _ _).alloc _).alloc _)) (by omega)).mono ?_; rintro e u1 ⟨rfl, k1⟩; rw [dP]; have K1 : Kept w u1 := (((But.refl _ _ _).alloc _).alloc _).trans k1; have L1 := ((Loc.new w [.int .i64 c.1, .int .i64 c.2.1, .slice ao c.2.2.length cap] 49).alloc (.cells #[.int .i64 0, .int .i64 0, .slice none 0 0] 49)).kept k1; have L3 := (Loc.new (w.alloc (.cells #[.int .i64 c.1, .int .i64 c.2.1, .slice ao c.2.2.length cap] 49)) [.int .i64 0, .int .i64 0, .slice none 0 0] 49).kept k1; simp only [World.size_alloc] at L3; have r0 := L3.cell 0 rfl; have r1 := L3.cell 1 rfl; have r2 := L3.cell 2 rfl; have rl := L3.lt; have rf0 := L3.frozen 0; have rf1 := L3.frozen 1; have rf2 := L3.frozen 2; have s0 := L1.cell 0 rfl; have s1 := L1.cell 1 rfl; have s2 := L1.cell 2 rfl; have sl := L1.lt; have sf2 := L1.frozen 2; dsimp only) | (go_at_call 51; refine (iplace _ _).mono ?_; rintro e w3 ⟨rfl, hw3⟩; rw [hw3]; clear hw3 w3; (first | rw [dx0]); dsimp only) | go_values | go_skip | go_guarded | go_step | go_upon)
    refine bodyPost_ret (v := .tuple #[.agg #[.int .i64 0, .int .i64 0, .slice none 0 0], .bool false]) (by simp [results, Try.results32, go_sem, *]) rfl ?_
    exact ⟨_, rfl, no_sheet _ _ _, ((K1.setNew (by simp) _).setNew (by simp) _).setNew (by simp) _⟩
  have dx0 : decide (-10000 ≤ x0 ∧ x0 ≤ 10000) = true := decide_eq_true hdx0
  rcases (Decidable.em (-10000 ≤ y0 ∧ y0 ≤ 10000)).symm with hdy0 | hdy0
  · rw [show lineA c x0 y0 x1 y1 col = ((0, 0, []), false) from if_neg (fun h => hdy0 h.2.1.2.1)]
    have dy0 : decide (-10000 ≤ y0 ∧ y0 ≤ 10000) = false := decide_eq_false hdy0
    clear hdy0
    go_enter Try.func32, Try.ntmps32
    repeat (first | (go_at_call 25; refine (igood c _ _ (hv.kept (((But.refl _ _ _).alloc _).alloc _)) (by omega)).mono ?_; rintro e u1 ⟨rfl, k1⟩; rw [dP]; have K1 : Kept w u1 := (((But.refl _ _ _).alloc _).alloc _).trans k1; have L1 := ((Loc.new w [.int .i64 c.1, .int .i64 c.2.1, .slice ao c.2.2.length cap] 49).alloc (.cells #[.int .i64 0, .int .i64 0, .slice none 0 0] 49)).kept k1; have L3 := (Loc.new (w.alloc (.cells #[.int .i64 c.1, .int .i64 c.2.1, .slice ao c.2.2.length cap] 49)) [.int .i64 0, .int .i64 0, .slice none 0 0] 49).kept k1; simp only [World.size_alloc] at L3; have r0 := L3.cell 0 rfl; have r1 := L3.cell 1 rfl; have r2 := L3.cell 2 rfl; have rl := L3.lt; have rf0 := L3.frozen 0; have rf1 := L3.frozen 1; have rf2 := L3.frozen 2; have s0 := L1.cell 0 rfl; have s1 := L1.cell 1 rfl; have s2 := L1.cell 2 rfl; have sl := L1.lt; have sf2 := L1.frozen 2; dsimp only) | (go_at_call 51; refine (iplace _ _).mono ?_; rintro e w3 ⟨rfl, hw3⟩; rw [hw3]; clear hw3 w3; (first | rw [dx0] | rw [dy0]); dsimp only) | go_values | go_skip | go_guarded | go_step | go_upon)
    refine bodyPost_ret (v := .tuple #[.agg #[.int .i64 0, .int .i64 0, .slice none 0 0], .bool false]) (by simp [results, Try.results32, go_sem, *]) rfl ?_
    exact ⟨_, rfl, no_sheet _ _ _, ((K1.setNew (by simp) _).setNew (by simp) _).setNew (by simp) _⟩
  have dy0 : decide (-10000 ≤ y0 ∧ y0 ≤ 10000) = true := decide_eq_true hdy0
  rcases (Decidable.em (-10000 ≤ x1 ∧ x1 ≤ 10000)).symm with hdx1 | hdx1
  · rw [show lineA c x0 y0 x1 y1 col = ((0, 0, []), false) from if_neg (fun h => hdx1 h.2.1.2.2.1)]
    have dx1 : decide (-10000 ≤ x1 ∧ x1 ≤ 10000) = false := decide_eq_false hdx1
    clear hdx1
    go_enter Try.func32, Try.ntmps32
    repeat (first | (go_at_call 25; refine (igood c _ _ (hv.kept (((But.refl _ _ _).alloc _).alloc _)) (by omega)).mono ?_; rintro e u1 ⟨rfl, k1⟩; rw [dP]; have K1 : Kept w u1 := (((But.refl _ _ _).alloc _).alloc _).trans k1; have L1 := ((Loc.new w [.int .i64 c.1, .int .i64 c.2.1, .slice ao c.2.2.length cap] 49).alloc (.cells #[.int .i64 0, .int .i64 0, .slice none 0 0] 49)).kept k1; have L3 := (Loc.new (w.alloc (.cells #[.int .i64 c.1, .int .i64 c.2.1, .slice ao c.2.2.length cap] 49)) [.int .i64 0, .int .i64 0, .slice none 0 0] 49).kept k1; simp only [World.size_alloc] at L3; have r0 := L3.cell 0 rfl; have r1 := L3.cell 1 rfl; have r2 := L3.cell 2 rfl; have rl := L3.lt; have rf0 := L3.frozen 0; have rf1 := L3.frozen 1; have rf2 := L3.frozen 2; have s0 := L1.cell 0 rfl; have s1 := L1.cell 1 rfl; have s2 := L1.cell 2 rfl; have sl := L1.lt; have sf2 := L1.frozen 2; dsimp only) | (go_at_call 51; refine (iplace _ _).mono ?_; rintro e w3 ⟨rfl, hw3⟩; rw [hw3]; clear hw3 w3; (first | rw [dx0] | rw [dy0] | rw [dx1]); dsimp only) | go_values | go_skip | go_guarded | go_step | go_upon)
    refine bodyPost_ret (v := .tuple #[.agg #[.int .i64 0, .int .i64 0, .slice none 0 0], .bool false]) (by simp [results, Try.results32, go_sem, *]) rfl ?_
    exact ⟨_, rfl, no_sheet _ _ _, ((K1.setNew (by simp) _).setNew (by simp) _).setNew (by simp) _⟩
  have dx1 : decide (-10000 ≤ x1 ∧ x1 ≤ 10000) = true := decide_eq_true hdx1
  rcases (Decidable.em (-10000 ≤ y1 ∧ y1 ≤ 10000)).symm with hdy1 | hdy1
  · rw [show lineA c x0 y0 x1 y1 col = ((0, 0, []), false) from if_neg (fun h => hdy1 h.2.1.2.2.2)]
    have dy1 : decide (-10000 ≤ y1 ∧ y1 ≤ 10000) = false := decide_eq_false hdy1
    clear hdy1
    go_enter Try.func32, Try.ntmps32
    repeat (first | (go_at_call 25; refine (igood c _ _ (hv.kept (((But.refl _ _ _).alloc _).alloc _)) (by omega)).mono ?_; rintro e u1 ⟨rfl, k1⟩; rw [dP]; have K1 : Kept w u1 := (((But.refl _ _ _).alloc _).alloc _).trans k1; have L1 := ((Loc.new w [.int .i64 c.1, .int .i64 c.2.1, .slice ao c.2.2.length cap] 49).alloc (.cells #[.int .i64 0, .int .i64 0, .slice none 0 0] 49)).kept k1; have L3 := (Loc.new (w.alloc (.cells #[.int .i64 c.1, .int .i64 c.2.1, .slice ao c.2.2.length cap] 49)) [.int .i64 0, .int .i64 0, .slice none 0 0] 49).kept k1; simp only [World.size_alloc] at L3; have r0 := L3.cell 0 rfl; have r1 := L3.cell 1 rfl; have r2 := L3.cell 2 rfl; have rl := L3.lt; have rf0 := L3.frozen 0; have rf1 := L3.frozen 1; have rf2 := L3.frozen 2; have s0 := L1.cell 0 rfl; have s1 := L1.cell 1 rfl; have s2 := L1.cell 2 rfl; have sl := L1.lt; have sf2 := L1.frozen 2; dsimp only) | (go_at_call 51; refine (iplace _ _).mono ?_; rintro e w3 ⟨rfl, hw3⟩; rw [hw3]; clear hw3 w3; (first | rw [dx0] | rw [dy0] | rw [dx1] | rw [dy1]); dsimp only) | go_values | go_skip | go_guarded | go_step | go_upon)
    refine bodyPost_ret (v := .tuple #[.agg #[.int .i64 0, .int .i64 0, .slice none 0 0], .bool false]) (by simp [results, Try.results32, go_sem, *]) rfl ?_
    exact ⟨_, rfl, no_sheet _ _ _, ((K1.setNew (by simp) _).setNew (by simp) _).setNew (by simp) _⟩
  have dy1 : decide (-10000 ≤ y1 ∧ y1 ≤ 10000) = true := decide_eq_true hdy1
  rcases (Decidable.em (0 ≤ col ∧ col ≤ 16777215)).symm with hdC | hdC
  · rw [show lineA c x0 y0 x1 y1 col = ((0, 0, []), false) from if_neg (fun h => hdC h.2.2)]
    have dC : decide (0 ≤ col ∧ col ≤ 16777215) = false := decide_eq_false hdC
    clear hdC
    go_enter Try.func32, Try.ntmps32
    repeat (first | (go_at_call 25; refine (igood c _ _ (hv.kept (((But.refl _ _ _).alloc _).alloc _)) (by omega)).mono ?_; rintro e u1 ⟨rfl, k1⟩; rw [dP]; have K1 : Kept w u1 := (((But.refl _ _ _).alloc _).alloc _).trans k1; have L1 := ((Loc.new w [.int .i64 c.1, .int .i64 c.2.1, .slice ao c.2.2.length cap] 49).alloc (.cells #[.int .i64 0, .int .i64 0, .slice none 0 0] 49)).kept k1; have L3 := (Loc.new (w.alloc (.cells #[.int .i64 c.1, .int .i64 c.2.1, .slice ao c.2.2.length cap] 49)) [.int .i64 0, .int .i64 0, .slice none 0 0] 49).kept k1; simp only [World.size_alloc] at L3; have r0 := L3.cell 0 rfl; have r1 := L3.cell 1 rfl; have r2 := L3.cell 2 rfl; have rl := L3.lt; have rf0 := L3.frozen 0; have rf1 := L3.frozen 1; have rf2 := L3.frozen 2; have s0 := L1.cell 0 rfl; have s1 := L1.cell 1 rfl; have s2 := L1.cell 2 rfl; have sl := L1.lt; have sf2 := L1.frozen 2; dsimp only) | (go_at_call 51; refine (iplace _ _).mono ?_; rintro e w3 ⟨rfl, hw3⟩; rw [hw3]; clear hw3 w3; (first | rw [dx0] | rw [dy0] | rw [dx1] | rw [dy1]); dsimp only) | (go_at_call 46; refine (icolor _ _).mono ?_; rintro e w3 ⟨rfl, hw3⟩; rw [hw3, dC]; clear hw3 w3; dsimp only) | go_values | go_skip | go_guarded | go_step | go_upon)
    refine bodyPost_ret (v := .tuple #[.agg #[.int .i64 0, .int .i64 0, .slice none 0 0], .bool false]) (by simp [results, Try.results32, go_sem, *]) rfl ?_
    exact ⟨_, rfl, no_sheet _ _ _, ((K1.setNew (by simp) _).setNew (by simp) _).setNew (by simp) _⟩
  have dC : decide (0 ≤ col ∧ col ≤ 16777215) = true := decide_eq_true hdC
  have hE : EndsP x0 y0 x1 y1 := ⟨hdx0, hdy0, hdx1, hdy1⟩
  obtain ⟨M, hM⟩ : ∃ M, stepsM x0 y0 x1 y1 = M := ⟨_, rfl⟩
  have hMb := steps_in hE
  rw [show lineA c x0 y0 x1 y1 col = ((c.1, c.2.1, lineN c x0 y0 x1 y1 col M (M.toNat + 1)), true) by rw [lineA, if_pos ⟨hdP, hE, hdC⟩, hM]]
  rw [hM] at hMb
  obtain ⟨hW, hH, hL, _⟩ := hdP
  have hpos : 0 < c.2.2.length := by have := mul_in hW.1 hW.2 hH.1 hH.2; omega
  have HL : Hid ((c.2.2.length : Int) = c.1 * c.2.1) := hL
  have HE : Hid (EndsP x0 y0 x1 y1) := hE
  have HM : Hid (max (absM (x1 - x0)) (absM (y1 - y0)) = M) := hM
  have ab1 := absM_in (x := x1 - x0) (m := 20000) (by omega) (by omega)
  have ab2 := absM_in (x := y1 - y0) (m := 20000) (by omega) (by omega)
  have XA : Hid (∀ W, Calls Try.prog 52 #[.int .i64 (x1 - x0)] W fun e w' => e = .returned (.int .i64 (absM (x1 - x0))) ∧ w' = W) := fun W => iabs _ W (by omega)
  have YA : Hid (∀ W, Calls Try.prog 52 #[.int .i64 (y1 - y0)] W fun e w' => e = .returned (.int .i64 (absM (y1 - y0))) ∧ w' = W) := fun W => iabs _ W (by omega)
  clear hL hE hM hdC
  have hmx := run_max2 (P := Try.prog) (absM (x1 - x0)) (absM (y1 - y0))
  rw [HM.out] at hmx
  go_enter Try.func32, Try.ntmps32
  repeat (first | (go_at_call 25; refine (igood c _ _ (hv.kept (((But.refl _ _ _).alloc _).alloc _)) (by omega)).mono ?_; rintro e u1 ⟨rfl, k1⟩; rw [dP]; have K1 : Kept w u1 := (((But.refl _ _ _).alloc _).alloc _).trans k1; have L1 := ((Loc.new w [.int .i64 c.1, .int .i64 c.2.1, .slice ao c.2.2.length cap] 49).alloc (.cells #[.int .i64 0, .int .i64 0, .slice none 0 0] 49)).kept k1; have L3 := (Loc.new (w.alloc (.cells #[.int .i64 c.1, .int .i64 c.2.1, .slice ao c.2.2.length cap] 49)) [.int .i64 0, .int .i64 0, .slice none 0 0] 49).kept k1; simp only [World.size_alloc] at L3; have r0 := L3.cell 0 rfl; have r1 := L3.cell 1 rfl; have r2 := L3.cell 2 rfl; have rl := L3.lt; have rf0 := L3.frozen 0; have rf1 := L3.frozen 1; have rf2 := L3.frozen 2; have s0 := L1.cell 0 rfl; have s1 := L1.cell 1 rfl; have s2 := L1.cell 2 rfl; have sl := L1.lt; have sf2 := L1.frozen 2; dsimp only) | (go_at_call 51; refine (iplace _ _).mono ?_; rintro e w3 ⟨rfl, hw3⟩; rw [hw3]; clear hw3 w3; (first | rw [dx0] | rw [dy0] | rw [dx1] | rw [dy1]); dsimp only) | (go_at_call 46; refine (icolor _ _).mono ?_; rintro e w3 ⟨rfl, hw3⟩; rw [hw3, dC]; clear hw3 w3; dsimp only) | (go_at_call 48; refine (iclone c.2.2 _ _ (hv.row.kept K1) hn).mono ?_; rintro e u4 ⟨v4, rfl, o4, k4⟩; obtain ⟨g, cg, ef⟩ := own_some o4 hpos; subst ef; have K3 := K1.trans k4; have hu2 := L3.lt; have L1 := L1.kept k4; have L3 := L3.kept k4; have ne0 : w.heap.size + 2 ≤ g := (by rcases o4.1.2 with ⟨hf, _⟩ | ⟨g', c2, cur, hf, hb, _⟩ <;> cases hf; omega); have ne1 : g ≠ w.heap.size := (by omega); clear s0 s1 s2 sl sf2 r0 r1 r2 rl rf0 rf1 rf2; have s0 := L1.cell 0 rfl; have s1 := L1.cell 1 rfl; have s2 := L1.cell 2 rfl; have sl := L1.lt; have sf2 := L1.frozen 2; dsimp only) | (go_at_call 52; (first | with_reducible refine (XA.out _).mono ?_ | with_reducible refine (YA.out _).mono ?_); rintro e w3 ⟨rfl, hw3⟩; rw [hw3]; clear hw3 w3; dsimp only) | go_values | go_skip | go_guarded | go_step | go_upon)
  obtain ⟨X, hX⟩ : ∃ X, X = u4.setCell ⟨w.heap.size, 2, none⟩ (.slice (some ⟨g, 0, none⟩) c.2.2.length cg) := ⟨_, rfl⟩
  have hg := own_lt o4.1 (g := g) rfl
  have LX : Loc X w.heap.size [.int .i64 c.1, .int .i64 c.2.1, .slice (some ⟨g, 0, none⟩) c.2.2.length cg] := by rw [hX]; exact L1.set 2 _
  have LRR : Loc X (w.heap.size + 1) [.int .i64 0, .int .i64 0, .slice none 0 0] := by rw [hX]; exact L3.other (j := 2) (by omega) _
  have KX : Kept w X := by rw [hX]; exact K3.setNew (by simp) _
  have hXs : X.heap.size = u4.heap.size := by rw [hX]; simp
  have OX : NumO X (w.heap.size + 2) X.heap.size (.slice (some ⟨g, 0, none⟩) c.2.2.length cg) c.2.2 := by
    rw [hXs, hX]
    exact (o4.but ((But.refl w.heap.size (w.heap.size + 1) u4).setCell (p := ⟨w.heap.size, 2, none⟩) (by simp) (by simp) _) (by omega)).mono (by omega) (Nat.le_refl _)
  rw [← hX]
  clear hX hXs L1 L3 K3 k4 o4 hg
  obtain ⟨N, hN⟩ : ∃ N, X.heap.size = N := ⟨_, rfl⟩
  have NS : w.heap.size + 2 ≤ N := by have := LRR.lt; omega
  rw [hN] at OX
  clear hN
  clear s0 s1 s2 sl sf2 XA YA hmx HM ab1 ab2 K1 k1 dP dx0 dy0 dx1 dy1 dC
  go_loopw [62] (fun i wr => ∃ (k : Nat), (k : Int) ≤ M + 1 ∧ i = .int .i64 k ∧ NumO wr (w.heap.size + 2) N (.slice (some ⟨g, 0, none⟩) c.2.2.length cg) (lineN c x0 y0 x1 y1 col M k) ∧ Loc wr w.heap.size [.int .i64 c.1, .int .i64 c.2.1, .slice (some ⟨g, 0, none⟩) c.2.2.length cg] ∧ Loc wr (w.heap.size + 1) [.int .i64 0, .int .i64 0, .slice none 0 0] ∧ Kept w wr) (fun i _ => (M + 1).toNat - (intOf i).toNat)
  case atStart => exact ⟨0, by omega, rfl, OX, LX, LRR, KX⟩
  case round =>
    clear OX LX LRR KX
    obtain ⟨k, hk, rfl, ho, l1, l3, hk9⟩ := hrel
    by_cases hlt : (k : Int) < M + 1
    · have hEE := HE.out
      have PX : Hid (∀ W, Calls Try.prog 53 #[.int .i64 x0, .int .i64 x1, .int .i64 (k : Int), .int .i64 M] W fun e w' => e = .returned (.int .i64 (onL x0 x1 k M)) ∧ w' = W) := fun W => ionL x0 x1 k M W hEE.1 hEE.2.2.1 (by omega) (by omega)
      have PY : Hid (∀ W, Calls Try.prog 53 #[.int .i64 y0, .int .i64 y1, .int .i64 (k : Int), .int .i64 M] W fun e w' => e = .returned (.int .i64 (onL y0 y1 k M)) ∧ w' = W) := fun W => ionL y0 y1 k M W hEE.2.1 hEE.2.2.2 (by omega) (by omega)
      have dk : decide ((k : Int) < M + 1) = true := decide_eq_true hlt
      obtain ⟨px, hpx⟩ : ∃ p, onL x0 x1 k M = p := ⟨_, rfl⟩
      obtain ⟨py, hpy⟩ : ∃ p, onL y0 y1 k M = p := ⟨_, rfl⟩
      rw [hpx] at PX
      rw [hpy] at PY
      have HQ : lineN c x0 y0 x1 y1 col M (k + 1) = putL c.1 c.2.1 (lineN c x0 y0 x1 y1 col M k) px py col := by rw [lineN, hpx, hpy]
      clear hpx hpy hEE
      have s0 := l1.cell 0 rfl
      have s1 := l1.cell 1 rfl
      have s2 := l1.cell 2 rfl
      have sl := l1.lt
      have HO : Hid (NumO wr (w.heap.size + 2) N (.slice (some ⟨g, 0, none⟩) c.2.2.length cg) (lineN c x0 y0 x1 y1 col M k)) := ho
      have H1 : Hid (Loc wr w.heap.size [.int .i64 c.1, .int .i64 c.2.1, .slice (some ⟨g, 0, none⟩) c.2.2.length cg]) := l1
      have H3 : Hid (Loc wr (w.heap.size + 1) [.int .i64 0, .int .i64 0, .slice none 0 0]) := l3
      have HK : Hid (Kept w wr) := hk9
      have hgl := own_lt ho.1 (g := g) rfl
      rcases (Decidable.em (0 ≤ px)).symm with j0 | j0
      · have e0 : decide (0 ≤ px) = false := decide_eq_false j0
        rw [show putL c.1 c.2.1 (lineN c x0 y0 x1 y1 col M k) px py col = lineN c x0 y0 x1 y1 col M k from if_neg (fun h => by omega)] at HQ
        have HQ : Hid (lineN c x0 y0 x1 y1 col M (k + 1) = lineN c x0 y0 x1 y1 col M k) := HQ
        have HJ : Hid _ := j0
        clear j0 ho l1 l3 hk9
        repeat (first | go_values | go_skip | go_guarded | go_step | go_upon | (go_at_call 53; (first | with_reducible refine (PX.out _).mono ?_ | with_reducible refine (PY.out _).mono ?_); rintro e w3 ⟨rfl, hw3⟩; rw [hw3]; clear hw3 w3; dsimp only))
        exact ⟨⟨k + 1, by omega, by go_num, by rw [HQ.out]; exact HO.out, H1.out, H3.out, HK.out⟩, by simp [intOf]; omega⟩
      have e0 : decide (0 ≤ px) = true := decide_eq_true j0
      rcases (Decidable.em (px < c.1)).symm with j1 | j1
      · have e1 : decide (px < c.1) = false := decide_eq_false j1
        rw [show putL c.1 c.2.1 (lineN c x0 y0 x1 y1 col M k) px py col = lineN c x0 y0 x1 y1 col M k from if_neg (fun h => by omega)] at HQ
        have HQ : Hid (lineN c x0 y0 x1 y1 col M (k + 1) = lineN c x0 y0 x1 y1 col M k) := HQ
        have HJ : Hid _ := j1
        clear j1 ho l1 l3 hk9
        repeat (first | go_values | go_skip | go_guarded | go_step | go_upon | (go_at_call 53; (first | with_reducible refine (PX.out _).mono ?_ | with_reducible refine (PY.out _).mono ?_); rintro e w3 ⟨rfl, hw3⟩; rw [hw3]; clear hw3 w3; dsimp only))
        exact ⟨⟨k + 1, by omega, by go_num, by rw [HQ.out]; exact HO.out, H1.out, H3.out, HK.out⟩, by simp [intOf]; omega⟩
      have e1 : decide (px < c.1) = true := decide_eq_true j1
      rcases (Decidable.em (0 ≤ py)).symm with j2 | j2
      · have e2 : decide (0 ≤ py) = false := decide_eq_false j2
        rw [show putL c.1 c.2.1 (lineN c x0 y0 x1 y1 col M k) px py col = lineN c x0 y0 x1 y1 col M k from if_neg (fun h => by omega)] at HQ
        have HQ : Hid (lineN c x0 y0 x1 y1 col M (k + 1) = lineN c x0 y0 x1 y1 col M k) := HQ
        have HJ : Hid _ := j2
        clear j2 ho l1 l3 hk9
        repeat (first | go_values | go_skip | go_guarded | go_step | go_upon | (go_at_call 53; (first | with_reducible refine (PX.out _).mono ?_ | with_reducible refine (PY.out _).mono ?_); rintro e w3 ⟨rfl, hw3⟩; rw [hw3]; clear hw3 w3; dsimp only))
        exact ⟨⟨k + 1, by omega, by go_num, by rw [HQ.out]; exact HO.out, H1.out, H3.out, HK.out⟩, by simp [intOf]; omega⟩
      have e2 : decide (0 ≤ py) = true := decide_eq_true j2
      rcases (Decidable.em (py < c.2.1)).symm with j3 | j3
      · have e3 : decide (py < c.2.1) = false := decide_eq_false j3
        rw [show putL c.1 c.2.1 (lineN c x0 y0 x1 y1 col M k) px py col = lineN c x0 y0 x1 y1 col M k from if_neg (fun h => by omega)] at HQ
        have HQ : Hid (lineN c x0 y0 x1 y1 col M (k + 1) = lineN c x0 y0 x1 y1 col M k) := HQ
        have HJ : Hid _ := j3
        clear j3 ho l1 l3 hk9
        repeat (first | go_values | go_skip | go_guarded | go_step | go_upon | (go_at_call 53; (first | with_reducible refine (PX.out _).mono ?_ | with_reducible refine (PY.out _).mono ?_); rintro e w3 ⟨rfl, hw3⟩; rw [hw3]; clear hw3 w3; dsimp only))
        exact ⟨⟨k + 1, by omega, by go_num, by rw [HQ.out]; exact HO.out, H1.out, H3.out, HK.out⟩, by simp [intOf]; omega⟩
      have e3 : decide (py < c.2.1) = true := decide_eq_true j3
      rw [show putL c.1 c.2.1 (lineN c x0 y0 x1 y1 col M k) px py col = (lineN c x0 y0 x1 y1 col M k).set (py * c.1 + px).toNat col from if_pos ⟨⟨by omega, by omega⟩, ⟨by omega, by omega⟩⟩] at HQ
      have HQ : Hid (lineN c x0 y0 x1 y1 col M (k + 1) = (lineN c x0 y0 x1 y1 col M k).set (py * c.1 + px).toNat col) := HQ
      obtain ⟨n0, n1⟩ := idx_in (a := c.1) (b := c.2.1) (x := px) (y := py) ⟨by omega, by omega⟩ ⟨by omega, by omega⟩
      have m1 : py * c.1 ≤ 24 * 24 := Int.mul_le_mul (by omega) (by omega) (by omega) (by omega)
      have hLL := HL.out
      obtain ⟨p, hp⟩ := getI_at (l := lineN c x0 y0 x1 y1 col M k) (k := py * c.1 + px) (by omega) (by rw [lineN_len]; omega)
      obtain ⟨d0, dz⟩ := ho.cells hp
      have dz0 := dz (py * c.1 + px).toNat
      have q1 : (0 : Int) ≤ py * c.1 + px := by omega
      have q2 : py * c.1 + px < (c.2.2.length : Int) := by omega
      have HS : Hid _ := ho.set (by rw [lineN_len]) hp col
      clear ho l1 l3 hk9 dz hp hLL
      repeat (first | go_values | go_skip | go_guarded | go_step | go_upon | (go_at_call 53; (first | with_reducible refine (PX.out _).mono ?_ | with_reducible refine (PY.out _).mono ?_); rintro e w3 ⟨rfl, hw3⟩; rw [hw3]; clear hw3 w3; dsimp only))
      exact ⟨⟨k + 1, by omega, by go_num, by rw [HQ.out]; exact HS.out, H1.out.other (by omega) _, H3.out.other (by omega) _, HK.out.setNew (by simp; omega) _⟩, by simp [intOf]; omega⟩
    · have hke : k = M.toNat + 1 := by omega
      have dk : decide ((k : Int) < M + 1) = false := decide_eq_false hlt
      have ho : NumO wr (w.heap.size + 2) N (.slice (some ⟨g, 0, none⟩) c.2.2.length cg) (lineN c x0 y0 x1 y1 col M (M.toNat + 1)) := by rw [← hke]; exact ho
      clear hke hlt
      have OF : NumO wr (w.heap.size + 2) N (.slice (some ⟨g, 0, none⟩) c.2.2.length cg) (lineN c x0 y0 x1 y1 col M (M.toNat + 1)) := ho
      have hN := NS
      have s0 := l1.cell 0 rfl
      have s1 := l1.cell 1 rfl
      have s2 := l1.cell 2 rfl
      have sl := l1.lt
      have r0 := l3.cell 0 rfl
      have r1 := l3.cell 1 rfl
      have r2 := l3.cell 2 rfl
      have rl := l3.lt
      have rf0 := l3.frozen 0
      have rf1 := l3.frozen 1
      have rf2 := l3.frozen 2
      have HO : Hid _ := OF
      have HK : Hid (Kept w wr) := hk9
      clear OF ho hk9
      repeat (first | go_values | go_skip | go_guarded | go_step | go_upon)
      have B : But (w.heap.size + 1) (w.heap.size + 2) wr (((wr.setCell ⟨w.heap.size + 1, 0, none⟩ (.int .i64 c.1)).setCell ⟨w.heap.size + 1, 1, none⟩ (.int .i64 c.2.1)).setCell ⟨w.heap.size + 1, 2, none⟩ (.slice (some ⟨g, 0, none⟩) c.2.2.length cg)) :=
        (((But.refl _ _ _).setCell (by simp) (by simp) _).setCell (by simp) (by simp) _).setCell (by simp) (by simp) _
      have LF := ((l3.set 0 (.int .i64 c.1)).set 1 (.int .i64 c.2.1)).set 2 (.slice (some ⟨g, 0, none⟩) c.2.2.length cg)
      have t0 := LF.cell 0 rfl
      have t1 := LF.cell 1 rfl
      have t2 := LF.cell 2 rfl
      refine bodyPost_ret (v := .tuple #[.agg #[.int .i64 c.1, .int .i64 c.2.1, .slice (some ⟨g, 0, none⟩) c.2.2.length cg], .bool true]) (by simp [results, Try.results32, go_sem, t0, t1, t2]) rfl ?_
      exact ⟨_, rfl, ⟨_, by simp only [lineN_len], (NumO.low ((HO.out.but B (by omega)).mono (lo' := w.heap.size) (hi' := N) (by omega) (Nat.le_refl _)))⟩, HK.out.onto B (by omega)⟩

end Go.Proofs.Ytoimpkhgdpkhkaa
