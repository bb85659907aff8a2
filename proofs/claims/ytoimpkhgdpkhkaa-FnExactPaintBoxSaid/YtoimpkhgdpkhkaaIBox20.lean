/-
  A box painted, in the program.
-/
import Derived.Test.YtoimpkhgdpkhkaaPut20
namespace Go.Proofs.Ytoimpkhgdpkhkaa
open Go.ChangeShapes Go.WideShapes Go.ChangeAt Go.RowKit

set_option maxRecDepth 100000
set_option linter.unusedVariables false
set_option linter.unusedSimpArgs false

set_option maxHeartbeats 16000000 in
theorem ibox (c : SheetD) (x y a b col : Int) (v : Value) (w : World) (hv : SheetAt w v c) (hn : c.2.2.length ≤ 1048576) :
    Calls Try.prog 28 #[v, .agg #[.int .i64 x, .int .i64 y, .int .i64 a, .int .i64 b], .int .i64 col] w fun e w' => ∃ v', e = .returned (.tuple #[v', .bool (boxA c x y a b col).2]) ∧ SheetO w' w.heap.size w'.heap.size v' (boxA c x y a b col).1 ∧ Kept w w' := by
  obtain ⟨ao, cap, hfm⟩ := hv.form
  subst hfm
  by_cases hP : SheetP c
  case neg =>
    rw [show boxA c x y a b col = ((0, 0, []), false) from if_neg (fun h => hP h.1)]
    have dP : decide (SheetP c) = false := decide_eq_false hP
    clear hP
    go_enter Try.func28, Try.ntmps28
    repeat (first | go_values | go_skip | go_guarded | go_step | go_upon)
    go_at_call 25
    refine (igood c _ _ (hv.kept ((((But.refl _ _ _).alloc _).alloc _).alloc _)) (by omega)).mono ?_
    rintro e u1 ⟨rfl, k1⟩
    rw [dP]
    have K1 : Kept w u1 := ((((But.refl _ _ _).alloc _).alloc _).alloc _).trans k1
    have L1 := (((Loc.new w [.int .i64 c.1, .int .i64 c.2.1, .slice ao c.2.2.length cap] 49).alloc (.cells #[.int .i64 x, .int .i64 y, .int .i64 a, .int .i64 b] 27)).alloc (.cells #[.int .i64 0, .int .i64 0, .slice none 0 0] 49)).kept k1
    have L2 := ((Loc.new (w.alloc (.cells #[.int .i64 c.1, .int .i64 c.2.1, .slice ao c.2.2.length cap] 49)) [.int .i64 x, .int .i64 y, .int .i64 a, .int .i64 b] 27).alloc (.cells #[.int .i64 0, .int .i64 0, .slice none 0 0] 49)).kept k1
    have L3 := (Loc.new ((w.alloc (.cells #[.int .i64 c.1, .int .i64 c.2.1, .slice ao c.2.2.length cap] 49)).alloc (.cells #[.int .i64 x, .int .i64 y, .int .i64 a, .int .i64 b] 27)) [.int .i64 0, .int .i64 0, .slice none 0 0] 49).kept k1
    simp only [World.size_alloc] at L2 L3
    have b0 := L2.cell 0 rfl
    have b1 := L2.cell 1 rfl
    have b2 := L2.cell 2 rfl
    have b3 := L2.cell 3 rfl
    have bl := L2.lt
    have r0 := L3.cell 0 rfl
    have r1 := L3.cell 1 rfl
    have r2 := L3.cell 2 rfl
    have rl := L3.lt
    have rf0 := L3.frozen 0
    have rf1 := L3.frozen 1
    have rf2 := L3.frozen 2
    dsimp only
    repeat (first | go_values | go_skip | go_guarded | go_step | go_upon)
    refine bodyPost_ret (v := .tuple #[.agg #[.int .i64 0, .int .i64 0, .slice none 0 0], .bool false]) (by simp [results, Try.results28, go_sem, *]) rfl ?_
    exact ⟨_, rfl, no_sheet _ _ _, ((K1.setNew (by simp; omega) _).setNew (by simp; omega) _).setNew (by simp; omega) _⟩
  have dP : decide (SheetP c) = true := decide_eq_true hP
  by_cases hB : BoxP x y a b
  case neg =>
    rw [show boxA c x y a b col = ((0, 0, []), false) from if_neg (fun h => hB h.2.1)]
    have dB : decide (BoxP x y a b) = false := decide_eq_false hB
    clear hB hP
    go_enter Try.func28, Try.ntmps28
    repeat (first | go_values | go_skip | go_guarded | go_step | go_upon)
    go_at_call 25
    refine (igood c _ _ (hv.kept ((((But.refl _ _ _).alloc _).alloc _).alloc _)) (by omega)).mono ?_
    rintro e u1 ⟨rfl, k1⟩
    rw [dP]
    have K1 : Kept w u1 := ((((But.refl _ _ _).alloc _).alloc _).alloc _).trans k1
    have L1 := (((Loc.new w [.int .i64 c.1, .int .i64 c.2.1, .slice ao c.2.2.length cap] 49).alloc (.cells #[.int .i64 x, .int .i64 y, .int .i64 a, .int .i64 b] 27)).alloc (.cells #[.int .i64 0, .int .i64 0, .slice none 0 0] 49)).kept k1
    have L2 := ((Loc.new (w.alloc (.cells #[.int .i64 c.1, .int .i64 c.2.1, .slice ao c.2.2.length cap] 49)) [.int .i64 x, .int .i64 y, .int .i64 a, .int .i64 b] 27).alloc (.cells #[.int .i64 0, .int .i64 0, .slice none 0 0] 49)).kept k1
    have L3 := (Loc.new ((w.alloc (.cells #[.int .i64 c.1, .int .i64 c.2.1, .slice ao c.2.2.length cap] 49)).alloc (.cells #[.int .i64 x, .int .i64 y, .int .i64 a, .int .i64 b] 27)) [.int .i64 0, .int .i64 0, .slice none 0 0] 49).kept k1
    simp only [World.size_alloc] at L2 L3
    have b0 := L2.cell 0 rfl
    have b1 := L2.cell 1 rfl
    have b2 := L2.cell 2 rfl
    have b3 := L2.cell 3 rfl
    have bl := L2.lt
    have r0 := L3.cell 0 rfl
    have r1 := L3.cell 1 rfl
    have r2 := L3.cell 2 rfl
    have rl := L3.lt
    have rf0 := L3.frozen 0
    have rf1 := L3.frozen 1
    have rf2 := L3.frozen 2
    dsimp only
    repeat (first | go_values | go_skip | go_guarded | go_step | go_upon)
    go_at_call 38
    refine (iarea _ _ _ _ _).mono ?_
    rintro e u2 ⟨rfl, k2⟩
    rw [dB]
    have K2 := K1.trans k2
    clear b0 b1 b2 b3 bl
    clear r0 r1 r2 rl rf0 rf1 rf2
    have L1 := L1.kept k2
    have L2 := L2.kept k2
    have L3 := L3.kept k2
    have r0 := L3.cell 0 rfl
    have r1 := L3.cell 1 rfl
    have r2 := L3.cell 2 rfl
    have rl := L3.lt
    have rf0 := L3.frozen 0
    have rf1 := L3.frozen 1
    have rf2 := L3.frozen 2
    have s0 := L1.cell 0 rfl
    have s1 := L1.cell 1 rfl
    have s2 := L1.cell 2 rfl
    have sl := L1.lt
    have sf0 := L1.frozen 0
    have sf1 := L1.frozen 1
    have sf2 := L1.frozen 2
    dsimp only
    repeat (first | go_values | go_skip | go_guarded | go_step | go_upon)
    refine bodyPost_ret (v := .tuple #[.agg #[.int .i64 0, .int .i64 0, .slice none 0 0], .bool false]) (by simp [results, Try.results28, go_sem, *]) rfl ?_
    exact ⟨_, rfl, no_sheet _ _ _, ((K2.setNew (by simp; omega) _).setNew (by simp; omega) _).setNew (by simp; omega) _⟩
  have dB : decide (BoxP x y a b) = true := decide_eq_true hB
  by_cases hC : 0 ≤ col ∧ col ≤ 16777215
  case neg =>
    rw [show boxA c x y a b col = ((0, 0, []), false) from if_neg (fun h => hC h.2.2)]
    have dC : decide (0 ≤ col ∧ col ≤ 16777215) = false := decide_eq_false hC
    clear hC hB hP
    go_enter Try.func28, Try.ntmps28
    repeat (first | go_values | go_skip | go_guarded | go_step | go_upon)
    go_at_call 25
    refine (igood c _ _ (hv.kept ((((But.refl _ _ _).alloc _).alloc _).alloc _)) (by omega)).mono ?_
    rintro e u1 ⟨rfl, k1⟩
    rw [dP]
    have K1 : Kept w u1 := ((((But.refl _ _ _).alloc _).alloc _).alloc _).trans k1
    have L1 := (((Loc.new w [.int .i64 c.1, .int .i64 c.2.1, .slice ao c.2.2.length cap] 49).alloc (.cells #[.int .i64 x, .int .i64 y, .int .i64 a, .int .i64 b] 27)).alloc (.cells #[.int .i64 0, .int .i64 0, .slice none 0 0] 49)).kept k1
    have L2 := ((Loc.new (w.alloc (.cells #[.int .i64 c.1, .int .i64 c.2.1, .slice ao c.2.2.length cap] 49)) [.int .i64 x, .int .i64 y, .int .i64 a, .int .i64 b] 27).alloc (.cells #[.int .i64 0, .int .i64 0, .slice none 0 0] 49)).kept k1
    have L3 := (Loc.new ((w.alloc (.cells #[.int .i64 c.1, .int .i64 c.2.1, .slice ao c.2.2.length cap] 49)).alloc (.cells #[.int .i64 x, .int .i64 y, .int .i64 a, .int .i64 b] 27)) [.int .i64 0, .int .i64 0, .slice none 0 0] 49).kept k1
    simp only [World.size_alloc] at L2 L3
    have b0 := L2.cell 0 rfl
    have b1 := L2.cell 1 rfl
    have b2 := L2.cell 2 rfl
    have b3 := L2.cell 3 rfl
    have bl := L2.lt
    have r0 := L3.cell 0 rfl
    have r1 := L3.cell 1 rfl
    have r2 := L3.cell 2 rfl
    have rl := L3.lt
    have rf0 := L3.frozen 0
    have rf1 := L3.frozen 1
    have rf2 := L3.frozen 2
    dsimp only
    repeat (first | go_values | go_skip | go_guarded | go_step | go_upon)
    go_at_call 38
    refine (iarea _ _ _ _ _).mono ?_
    rintro e u2 ⟨rfl, k2⟩
    rw [dB]
    have K2 := K1.trans k2
    clear b0 b1 b2 b3 bl
    clear r0 r1 r2 rl rf0 rf1 rf2
    have L1 := L1.kept k2
    have L2 := L2.kept k2
    have L3 := L3.kept k2
    have r0 := L3.cell 0 rfl
    have r1 := L3.cell 1 rfl
    have r2 := L3.cell 2 rfl
    have rl := L3.lt
    have rf0 := L3.frozen 0
    have rf1 := L3.frozen 1
    have rf2 := L3.frozen 2
    have s0 := L1.cell 0 rfl
    have s1 := L1.cell 1 rfl
    have s2 := L1.cell 2 rfl
    have sl := L1.lt
    have sf0 := L1.frozen 0
    have sf1 := L1.frozen 1
    have sf2 := L1.frozen 2
    dsimp only
    repeat (first | go_values | go_skip | go_guarded | go_step | go_upon)
    go_at_call 46
    refine (icolor _ _).mono ?_
    rintro e u3 ⟨rfl, hu3⟩
    rw [hu3, dC]
    clear hu3 u3
    dsimp only
    repeat (first | go_values | go_skip | go_guarded | go_step | go_upon)
    refine bodyPost_ret (v := .tuple #[.agg #[.int .i64 0, .int .i64 0, .slice none 0 0], .bool false]) (by simp [results, Try.results28, go_sem, *]) rfl ?_
    exact ⟨_, rfl, no_sheet _ _ _, ((K2.setNew (by simp; omega) _).setNew (by simp; omega) _).setNew (by simp; omega) _⟩
  have dC : decide (0 ≤ col ∧ col ≤ 16777215) = true := decide_eq_true hC
  rw [show boxA c x y a b col = ((c.1, c.2.1, boxN c x y a b col c.2.2.length), true) from if_pos ⟨hP, hB, hC⟩]
  obtain ⟨hW, hH, hL, _⟩ := hP
  have hpos : 0 < c.2.2.length := by have := mul_in hW.1 hW.2 hH.1 hH.2; omega
  have HB : Hid _ := hB
  have HL : Hid ((c.2.2.length : Int) = c.1 * c.2.1) := hL
  clear hB hC hL
  go_enter Try.func28, Try.ntmps28
  repeat (first | go_values | go_skip | go_guarded | go_step | go_upon)
  go_at_call 25
  refine (igood c _ _ (hv.kept ((((But.refl _ _ _).alloc _).alloc _).alloc _)) (by omega)).mono ?_
  rintro e u1 ⟨rfl, k1⟩
  rw [dP]
  have K1 : Kept w u1 := ((((But.refl _ _ _).alloc _).alloc _).alloc _).trans k1
  have L1 := (((Loc.new w [.int .i64 c.1, .int .i64 c.2.1, .slice ao c.2.2.length cap] 49).alloc (.cells #[.int .i64 x, .int .i64 y, .int .i64 a, .int .i64 b] 27)).alloc (.cells #[.int .i64 0, .int .i64 0, .slice none 0 0] 49)).kept k1
  have L2 := ((Loc.new (w.alloc (.cells #[.int .i64 c.1, .int .i64 c.2.1, .slice ao c.2.2.length cap] 49)) [.int .i64 x, .int .i64 y, .int .i64 a, .int .i64 b] 27).alloc (.cells #[.int .i64 0, .int .i64 0, .slice none 0 0] 49)).kept k1
  have L3 := (Loc.new ((w.alloc (.cells #[.int .i64 c.1, .int .i64 c.2.1, .slice ao c.2.2.length cap] 49)).alloc (.cells #[.int .i64 x, .int .i64 y, .int .i64 a, .int .i64 b] 27)) [.int .i64 0, .int .i64 0, .slice none 0 0] 49).kept k1
  simp only [World.size_alloc] at L2 L3
  have b0 := L2.cell 0 rfl
  have b1 := L2.cell 1 rfl
  have b2 := L2.cell 2 rfl
  have b3 := L2.cell 3 rfl
  have bl := L2.lt
  have r0 := L3.cell 0 rfl
  have r1 := L3.cell 1 rfl
  have r2 := L3.cell 2 rfl
  have rl := L3.lt
  have rf0 := L3.frozen 0
  have rf1 := L3.frozen 1
  have rf2 := L3.frozen 2
  dsimp only
  repeat (first | go_values | go_skip | go_guarded | go_step | go_upon)
  go_at_call 38
  refine (iarea _ _ _ _ _).mono ?_
  rintro e u2 ⟨rfl, k2⟩
  rw [dB]
  have K2 := K1.trans k2
  clear b0 b1 b2 b3 bl
  clear r0 r1 r2 rl rf0 rf1 rf2
  have L1 := L1.kept k2
  have L2 := L2.kept k2
  have L3 := L3.kept k2
  have r0 := L3.cell 0 rfl
  have r1 := L3.cell 1 rfl
  have r2 := L3.cell 2 rfl
  have rl := L3.lt
  have rf0 := L3.frozen 0
  have rf1 := L3.frozen 1
  have rf2 := L3.frozen 2
  have s0 := L1.cell 0 rfl
  have s1 := L1.cell 1 rfl
  have s2 := L1.cell 2 rfl
  have sl := L1.lt
  have sf0 := L1.frozen 0
  have sf1 := L1.frozen 1
  have sf2 := L1.frozen 2
  dsimp only
  repeat (first | go_values | go_skip | go_guarded | go_step | go_upon)
  go_at_call 46
  refine (icolor _ _).mono ?_
  rintro e u3 ⟨rfl, hu3⟩
  rw [hu3, dC]
  clear hu3 u3
  dsimp only
  repeat (first | go_values | go_skip | go_guarded | go_step | go_upon)
  go_at_call 48
  refine (iclone c.2.2 _ _ (hv.row.kept K2) hn).mono ?_
  rintro e u4 ⟨v4, rfl, o4, k4⟩
  obtain ⟨g, cg, ef⟩ := own_some o4 hpos
  subst ef
  have K3 := K2.trans k4
  have hu2 := L3.lt
  clear s0 s1 s2 sl sf0 sf1 sf2
  clear r0 r1 r2 rl rf0 rf1 rf2
  have L1 := L1.kept k4
  have L2 := L2.kept k4
  have L3 := L3.kept k4
  have ne0 : w.heap.size + 3 ≤ g := by rcases o4.1.2 with ⟨hf, _⟩ | ⟨g', c2, cur, hf, hb, _⟩ <;> cases hf; omega
  have ne1 : g ≠ w.heap.size := by omega
  have s0 := L1.cell 0 rfl
  have s1 := L1.cell 1 rfl
  have s2 := L1.cell 2 rfl
  have sl := L1.lt
  have sf0 := L1.frozen 0
  have sf1 := L1.frozen 1
  have sf2 := L1.frozen 2
  dsimp only
  repeat (first | go_values | go_skip | go_guarded | go_step | go_upon)
  obtain ⟨X, hX⟩ : ∃ X, X = u4.setCell ⟨w.heap.size, 2, none⟩ (.slice (some ⟨g, 0, none⟩) c.2.2.length cg) := ⟨_, rfl⟩
  have hg := own_lt o4.1 (g := g) rfl
  have LX : Loc X w.heap.size [.int .i64 c.1, .int .i64 c.2.1, .slice (some ⟨g, 0, none⟩) c.2.2.length cg] := by rw [hX]; exact L1.set 2 _
  have LB : Loc X (w.heap.size + 1) [.int .i64 x, .int .i64 y, .int .i64 a, .int .i64 b] := by rw [hX]; exact L2.other (j := 2) (by omega) _
  have LR : Loc X (w.heap.size + 1 + 1) [.int .i64 0, .int .i64 0, .slice none 0 0] := by rw [hX]; exact L3.other (j := 2) (by omega) _
  have KX : Kept w X := by rw [hX]; exact K3.setNew (by simp) _
  have hXs : X.heap.size = u4.heap.size := by rw [hX]; simp
  have OX : NumO X (w.heap.size + 3) X.heap.size (.slice (some ⟨g, 0, none⟩) c.2.2.length cg) c.2.2 := by
    rw [hXs, hX]
    exact (o4.but ((But.refl w.heap.size (w.heap.size + 1) u4).setCell (p := ⟨w.heap.size, 2, none⟩) (by simp) (by simp) _) (by omega)).mono (by omega) (Nat.le_refl _)
  rw [← hX]
  clear hX hXs L1 L2 L3 K1 K2 K3 k1 k2 k4 o4 hg s0 s1 s2 sl sf0 sf1 sf2 dP dB dC
  obtain ⟨N, hN⟩ : ∃ N, X.heap.size = N := ⟨_, rfl⟩
  have NS : w.heap.size + 3 ≤ N := by have := LR.lt; omega
  have hNX : Hid (X.heap.size = N) := hN
  rw [hN] at OX
  clear hN
  go_loopw [30] (fun i wr => ∃ (k : Nat), k ≤ c.2.2.length ∧ i = .int .i64 k ∧ NumO wr (w.heap.size + 3) N (.slice (some ⟨g, 0, none⟩) c.2.2.length cg) (boxN c x y a b col k) ∧ Loc wr w.heap.size [.int .i64 c.1, .int .i64 c.2.1, .slice (some ⟨g, 0, none⟩) c.2.2.length cg] ∧ Loc wr (w.heap.size + 1) [.int .i64 x, .int .i64 y, .int .i64 a, .int .i64 b] ∧ Loc wr (w.heap.size + 1 + 1) [.int .i64 0, .int .i64 0, .slice none 0 0] ∧ Kept w wr) (fun i _ => c.2.2.length - (intOf i).toNat)
  case atStart => exact ⟨0, by omega, rfl, OX, LX, LB, LR, KX⟩
  case round =>
    obtain ⟨k, hk, rfl, ho, l1, l2, l3, hk9⟩ := hrel
    by_cases hlt : k < c.2.2.length
    · have hbb := HB.out
      have e1 := Int.emod_nonneg (k : Int) (show c.1 ≠ 0 by omega)
      have e2 := Int.emod_lt_of_pos (k : Int) (show 0 < c.1 by omega)
      have e3 := Int.ediv_nonneg (show 0 ≤ (k : Int) by omega) (show 0 ≤ c.1 by omega)
      have e4 : (k : Int) / c.1 ≤ k := Int.ediv_le_self _ (by omega)
      have e5 : (k : Int) / c.1 ≤ 23 := by
        have h1 := HL.out
        have h2 : (k : Int) / c.1 < c.2.1 := Int.ediv_lt_of_lt_mul (by omega) (by rw [Int.mul_comm]; omega)
        omega
      have hq : BoxP ((k : Int) % c.1) ((k : Int) / c.1) 1 1 := by simp only [BoxP]; omega
      have MC : Hid (∀ W, Calls Try.prog 40 #[.agg #[.int .i64 x, .int .i64 y, .int .i64 a, .int .i64 b], .agg #[.int .i64 ((k : Int) % c.1), .int .i64 ((k : Int) / c.1), .int .i64 1, .int .i64 1]] W fun e w' => e = .returned (.bool (decide (MeetP x y a b ((k : Int) % c.1) ((k : Int) / c.1) 1 1))) ∧ Kept W w') := fun W => imeet x y a b _ _ 1 1 W hbb hq
      obtain ⟨p, hp⟩ : ∃ p, (boxN c x y a b col k)[k]? = some p := ⟨_, List.getElem?_eq_getElem (by rw [boxN_len]; exact hlt)⟩
      have s0 := l1.cell 0 rfl
      have s2 := l1.cell 2 rfl
      have sl := l1.lt
      have b0 := l2.cell 0 rfl
      have b1 := l2.cell 1 rfl
      have b2 := l2.cell 2 rfl
      have b3 := l2.cell 3 rfl
      have bl := l2.lt
      have wk : wrap64 ((k : Int) / c.1) = (k : Int) / c.1 := IntWalk.wrap64_in _ ⟨by omega, by omega⟩
      have tm : Int.tmod (k : Int) c.1 = (k : Int) % c.1 := Int.tmod_eq_emod_of_nonneg (by omega)
      have td : Int.tdiv (k : Int) c.1 = (k : Int) / c.1 := Int.tdiv_eq_ediv_of_nonneg (by omega)
      have HO : Hid (NumO wr (w.heap.size + 3) N (.slice (some ⟨g, 0, none⟩) c.2.2.length cg) (boxN c x y a b col k)) := ho
      have HP : Hid _ := hp
      have HKK : Hid (Kept w wr) := hk9
      have H1 : Hid (Loc wr w.heap.size [.int .i64 c.1, .int .i64 c.2.1, .slice (some ⟨g, 0, none⟩) c.2.2.length cg]) := l1
      have H2 : Hid (Loc wr (w.heap.size + 1) [.int .i64 x, .int .i64 y, .int .i64 a, .int .i64 b]) := l2
      have H3 : Hid (Loc wr (w.heap.size + 1 + 1) [.int .i64 0, .int .i64 0, .slice none 0 0]) := l3
      clear ho hp hk9 l1 l2 l3 hbb hq e1 e2 e3 e4 e5 OX LX LB LR KX
      repeat (first | go_values | go_skip | go_guarded | go_step | go_upon)
      refine wp_region_kept (by kernel_rfl) (by kernel_rfl) ?_
      have hcc := @KW.cell_eq
      repeat (first | (go_big_quiet_step (first | (go_at_call 40; exact kw_call (MC.out _)))) | (go_big_quiet_want; go_big_quiet_op; refine ⟨_, fun _ => (by with_reducible rfl), ?_⟩; go_big_quiet_on))
      refine wpQuiet_nil ?_
      rintro w5 ⟨⟨w8, k5⟩, h9⟩
      change w5 = w8 at h9
      subst h9
      clear hcc s0 s2 sl b0 b1 b2 b3 bl
      have ho := HO.out.kept k5
      have l1 := H1.out.kept k5
      have hk9 := HKK.out.trans k5
      rcases (Decidable.em (MeetP x y a b ((k : Int) % c.1) ((k : Int) / c.1) 1 1)).symm with hm | hm
      · have dm : decide (MeetP x y a b ((k : Int) % c.1) ((k : Int) / c.1) 1 1) = false := decide_eq_false hm
        rw [dm]
        have HQ : Hid (boxN c x y a b col (k + 1) = boxN c x y a b col k) := if_neg hm
        have HO2 : Hid (NumO w5 (w.heap.size + 3) N (.slice (some ⟨g, 0, none⟩) c.2.2.length cg) (boxN c x y a b col k)) := ho
        have H12 : Hid (Loc w5 w.heap.size [.int .i64 c.1, .int .i64 c.2.1, .slice (some ⟨g, 0, none⟩) c.2.2.length cg]) := l1
        clear hm ho l1
        repeat (first | go_values | go_skip | go_guarded | go_step | go_upon)
        exact ⟨⟨k + 1, hlt, by go_num, by rw [HQ.out]; exact HO2.out, H12.out, H2.out.kept k5, H3.out.kept k5, hk9⟩, by simp [intOf]; omega⟩
      · have dm : decide (MeetP x y a b ((k : Int) % c.1) ((k : Int) / c.1) 1 1) = true := decide_eq_true hm
        rw [dm]
        have HQ : Hid (boxN c x y a b col (k + 1) = (boxN c x y a b col k).set k col) := if_pos hm
        have s2 := l1.cell 2 rfl
        have sl := l1.lt
        obtain ⟨d0, dz⟩ := ho.cells HP.out
        have dz0 := dz k
        have HO2 : Hid _ := ho.set (by rw [boxN_len]) HP.out col
        have H12 : Hid (Loc w5 w.heap.size [.int .i64 c.1, .int .i64 c.2.1, .slice (some ⟨g, 0, none⟩) c.2.2.length cg]) := l1
        have hgl := own_lt ho.1 (g := g) rfl
        clear hm ho l1 dz
        repeat (first | go_values | go_skip | go_guarded | go_step | go_upon)
        refine ⟨⟨k + 1, hlt, by go_num, by rw [HQ.out]; exact HO2.out, H12.out.other (by omega) _, (H2.out.kept k5).other (by omega) _, (H3.out.kept k5).other (by omega) _, hk9.setNew (by simp; omega) _⟩, by simp [intOf]; omega⟩
    · have hke : k = c.2.2.length := by omega
      subst hke
      have OF : NumO wr (w.heap.size + 3) N (.slice (some ⟨g, 0, none⟩) c.2.2.length cg) (boxN c x y a b col c.2.2.length) := ho
      have hN := NS
      have s0 := l1.cell 0 rfl
      have s1 := l1.cell 1 rfl
      have s2 := l1.cell 2 rfl
      have sl := l1.lt
      have r0 := l3.cell 0 rfl
      have r1 := l3.cell 1 rfl
      have r2 := l3.cell 2 rfl
      have rl := l3.lt
      have rf0 := l3.frozen 0
      have rf1 := l3.frozen 1
      have rf2 := l3.frozen 2
      have HO : Hid _ := OF
      have HK : Hid (Kept w wr) := hk9
      clear OF ho hk9
      repeat (first | go_values | go_skip | go_guarded | go_step | go_upon)
      have B : But (w.heap.size + 1 + 1) (w.heap.size + 3) wr (((wr.setCell ⟨w.heap.size + 1 + 1, 0, none⟩ (.int .i64 c.1)).setCell ⟨w.heap.size + 1 + 1, 1, none⟩ (.int .i64 c.2.1)).setCell ⟨w.heap.size + 1 + 1, 2, none⟩ (.slice (some ⟨g, 0, none⟩) c.2.2.length cg)) :=
        (((But.refl _ _ _).setCell (by simp) (by simp) _).setCell (by simp) (by simp) _).setCell (by simp) (by simp) _
      have LF := ((l3.set 0 (.int .i64 c.1)).set 1 (.int .i64 c.2.1)).set 2 (.slice (some ⟨g, 0, none⟩) c.2.2.length cg)
      have t0 := LF.cell 0 rfl
      have t1 := LF.cell 1 rfl
      have t2 := LF.cell 2 rfl
      refine bodyPost_ret (v := .tuple #[.agg #[.int .i64 c.1, .int .i64 c.2.1, .slice (some ⟨g, 0, none⟩) c.2.2.length cg], .bool true]) (by simp [results, Try.results28, go_sem, t0, t1, t2]) rfl ?_
      exact ⟨_, rfl, ⟨_, by simp only [boxN_len], (NumO.low ((HO.out.but B (by omega)).mono (lo' := w.heap.size) (hi' := N) (by omega) (Nat.le_refl _)))⟩, HK.out.onto B (by omega)⟩

end Go.Proofs.Ytoimpkhgdpkhkaa
