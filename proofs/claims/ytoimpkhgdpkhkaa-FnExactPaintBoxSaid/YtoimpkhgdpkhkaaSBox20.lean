/-
  A box painted, in the specification.
-/
import Derived.Test.YtoimpkhgdpkhkaaPut20
import Derived.Test.YtoimpkhgdpkhkaaBStep20
namespace Go.Proofs.Ytoimpkhgdpkhkaa
open Go.ChangeShapes Go.WideShapes Go.ChangeAt Go.RowKit

set_option maxRecDepth 100000
set_option linter.unusedVariables false
set_option linter.unusedSimpArgs false

set_option maxHeartbeats 16000000 in
theorem sbox2 (c : SheetD) (x y a b col : Int) (v : Value) (w : World) (hv : SheetAt w v c) (hn : c.2.2.length ≤ 1048576) :
    Calls Try.prog 27 #[v, .agg #[.int .i64 x, .int .i64 y, .int .i64 a, .int .i64 b], .int .i64 col] w fun e w' => ∃ v', e = .returned (.tuple #[v', .bool (boxA c x y a b col).2]) ∧ SheetO w' w.heap.size w'.heap.size v' (boxA c x y a b col).1 ∧ Kept w w' := by
  obtain ⟨ao, cap, hfm⟩ := hv.form
  subst hfm
  by_cases hP : SheetP c
  case neg =>
    rw [show boxA c x y a b col = ((0, 0, []), false) from if_neg (fun h => hP h.1)]
    have dP : decide (SheetP c) = false := decide_eq_false hP
    clear hP
    go_enter Try.func27, Try.ntmps27
    repeat (first | go_values | go_skip | go_guarded | go_step | go_upon)
    go_at_call 23
    refine (sgood c _ _ (hv.kept ((((But.refl _ _ _).alloc _).alloc _).alloc _)) (by omega)).mono ?_
    rintro e u1 ⟨rfl, k1⟩
    rw [dP]
    have K1 : Kept w u1 := ((((But.refl _ _ _).alloc _).alloc _).alloc _).trans k1
    have L1 := (((Loc.new w [.int .i64 c.1, .int .i64 c.2.1, .slice ao c.2.2.length cap] 49).alloc (.cells #[.int .i64 x, .int .i64 y, .int .i64 a, .int .i64 b] 27)).alloc (.cells #[.int .i64 0, .int .i64 0, .slice none 0 0] 49)).kept k1
    have L2 := ((Loc.new (w.alloc (.cells #[.int .i64 c.1, .int .i64 c.2.1, .slice ao c.2.2.length cap] 49)) [.int .i64 x, .int .i64 y, .int .i64 a, .int .i64 b] 27).alloc (.cells #[.int .i64 0, .int .i64 0, .slice none 0 0] 49)).kept k1
    have L3 := (Loc.new ((w.alloc (.cells #[.int .i64 c.1, .int .i64 c.2.1, .slice ao c.2.2.length cap] 49)).alloc (.cells #[.int .i64 x, .int .i64 y, .int .i64 a, .int .i64 b] 27)) [.int .i64 0, .int .i64 0, .slice none 0 0] 49).kept k1
    simp only [World.size_alloc] at L2 L3
    have b0 := L2.cell 0 rfl
    have b1 := L2.cell 1 rfl
    have b2 := L2.cell 2 rfl
    have b3 := L2.cell 3 rfl
    have bl := L2.lt
    have r0 := L3.cell 0 rfl
    have r1 := L3.cell 1 rfl
    have r2 := L3.cell 2 rfl
    have rl := L3.lt
    have rf0 := L3.frozen 0
    have rf1 := L3.frozen 1
    have rf2 := L3.frozen 2
    dsimp only
    repeat (first | go_values | go_skip | go_guarded | go_step | go_upon)
    refine bodyPost_ret (v := .tuple #[.agg #[.int .i64 0, .int .i64 0, .slice none 0 0], .bool false]) (by simp [results, Try.results27, go_sem, *]) rfl ?_
    exact ⟨_, rfl, no_sheet _ _ _, ((K1.setNew (by simp; omega) _).setNew (by simp; omega) _).setNew (by simp; omega) _⟩
  have dP : decide (SheetP c) = true := decide_eq_true hP
  by_cases hB : BoxP x y a b
  case neg =>
    rw [show boxA c x y a b col = ((0, 0, []), false) from if_neg (fun h => hB h.2.1)]
    have dB : decide (BoxP x y a b) = false := decide_eq_false hB
    clear hB hP
    go_enter Try.func27, Try.ntmps27
    repeat (first | go_values | go_skip | go_guarded | go_step | go_upon)
    go_at_call 23
    refine (sgood c _ _ (hv.kept ((((But.refl _ _ _).alloc _).alloc _).alloc _)) (by omega)).mono ?_
    rintro e u1 ⟨rfl, k1⟩
    rw [dP]
    have K1 : Kept w u1 := ((((But.refl _ _ _).alloc _).alloc _).alloc _).trans k1
    have L1 := (((Loc.new w [.int .i64 c.1, .int .i64 c.2.1, .slice ao c.2.2.length cap] 49).alloc (.cells #[.int .i64 x, .int .i64 y, .int .i64 a, .int .i64 b] 27)).alloc (.cells #[.int .i64 0, .int .i64 0, .slice none 0 0] 49)).kept k1
    have L2 := ((Loc.new (w.alloc (.cells #[.int .i64 c.1, .int .i64 c.2.1, .slice ao c.2.2.length cap] 49)) [.int .i64 x, .int .i64 y, .int .i64 a, .int .i64 b] 27).alloc (.cells #[.int .i64 0, .int .i64 0, .slice none 0 0] 49)).kept k1
    have L3 := (Loc.new ((w.alloc (.cells #[.int .i64 c.1, .int .i64 c.2.1, .slice ao c.2.2.length cap] 49)).alloc (.cells #[.int .i64 x, .int .i64 y, .int .i64 a, .int .i64 b] 27)) [.int .i64 0, .int .i64 0, .slice none 0 0] 49).kept k1
    simp only [World.size_alloc] at L2 L3
    have b0 := L2.cell 0 rfl
    have b1 := L2.cell 1 rfl
    have b2 := L2.cell 2 rfl
    have b3 := L2.cell 3 rfl
    have bl := L2.lt
    have r0 := L3.cell 0 rfl
    have r1 := L3.cell 1 rfl
    have r2 := L3.cell 2 rfl
    have rl := L3.lt
    have rf0 := L3.frozen 0
    have rf1 := L3.frozen 1
    have rf2 := L3.frozen 2
    dsimp only
    repeat (first | go_values | go_skip | go_guarded | go_step | go_upon)
    go_at_call 36
    refine (sbox _ _ _ _ _).mono ?_
    rintro e u2 ⟨rfl, k2⟩
    rw [dB]
    have K2 := K1.trans k2
    clear b0 b1 b2 b3 bl
    clear r0 r1 r2 rl rf0 rf1 rf2
    have L1 := L1.kept k2
    have L2 := L2.kept k2
    have L3 := L3.kept k2
    have r0 := L3.cell 0 rfl
    have r1 := L3.cell 1 rfl
    have r2 := L3.cell 2 rfl
    have rl := L3.lt
    have rf0 := L3.frozen 0
    have rf1 := L3.frozen 1
    have rf2 := L3.frozen 2
    have s0 := L1.cell 0 rfl
    have s1 := L1.cell 1 rfl
    have s2 := L1.cell 2 rfl
    have sl := L1.lt
    have sf0 := L1.frozen 0
    have sf1 := L1.frozen 1
    have sf2 := L1.frozen 2
    dsimp only
    repeat (first | go_values | go_skip | go_guarded | go_step | go_upon)
    refine bodyPost_ret (v := .tuple #[.agg #[.int .i64 0, .int .i64 0, .slice none 0 0], .bool false]) (by simp [results, Try.results27, go_sem, *]) rfl ?_
    exact ⟨_, rfl, no_sheet _ _ _, ((K2.setNew (by simp; omega) _).setNew (by simp; omega) _).setNew (by simp; omega) _⟩
  have dB : decide (BoxP x y a b) = true := decide_eq_true hB
  by_cases hC : 0 ≤ col ∧ col ≤ 16777215
  case neg =>
    rw [show boxA c x y a b col = ((0, 0, []), false) from if_neg (fun h => hC h.2.2)]
    have dC : decide (0 ≤ col ∧ col ≤ 16777215) = false := decide_eq_false hC
    clear hC hB hP
    go_enter Try.func27, Try.ntmps27
    repeat (first | go_values | go_skip | go_guarded | go_step | go_upon)
    go_at_call 23
    refine (sgood c _ _ (hv.kept ((((But.refl _ _ _).alloc _).alloc _).alloc _)) (by omega)).mono ?_
    rintro e u1 ⟨rfl, k1⟩
    rw [dP]
    have K1 : Kept w u1 := ((((But.refl _ _ _).alloc _).alloc _).alloc _).trans k1
    have L1 := (((Loc.new w [.int .i64 c.1, .int .i64 c.2.1, .slice ao c.2.2.length cap] 49).alloc (.cells #[.int .i64 x, .int .i64 y, .int .i64 a, .int .i64 b] 27)).alloc (.cells #[.int .i64 0, .int .i64 0, .slice none 0 0] 49)).kept k1
    have L2 := ((Loc.new (w.alloc (.cells #[.int .i64 c.1, .int .i64 c.2.1, .slice ao c.2.2.length cap] 49)) [.int .i64 x, .int .i64 y, .int .i64 a, .int .i64 b] 27).alloc (.cells #[.int .i64 0, .int .i64 0, .slice none 0 0] 49)).kept k1
    have L3 := (Loc.new ((w.alloc (.cells #[.int .i64 c.1, .int .i64 c.2.1, .slice ao c.2.2.length cap] 49)).alloc (.cells #[.int .i64 x, .int .i64 y, .int .i64 a, .int .i64 b] 27)) [.int .i64 0, .int .i64 0, .slice none 0 0] 49).kept k1
    simp only [World.size_alloc] at L2 L3
    have b0 := L2.cell 0 rfl
    have b1 := L2.cell 1 rfl
    have b2 := L2.cell 2 rfl
    have b3 := L2.cell 3 rfl
    have bl := L2.lt
    have r0 := L3.cell 0 rfl
    have r1 := L3.cell 1 rfl
    have r2 := L3.cell 2 rfl
    have rl := L3.lt
    have rf0 := L3.frozen 0
    have rf1 := L3.frozen 1
    have rf2 := L3.frozen 2
    dsimp only
    repeat (first | go_values | go_skip | go_guarded | go_step | go_upon)
    go_at_call 36
    refine (sbox _ _ _ _ _).mono ?_
    rintro e u2 ⟨rfl, k2⟩
    rw [dB]
    have K2 := K1.trans k2
    clear b0 b1 b2 b3 bl
    clear r0 r1 r2 rl rf0 rf1 rf2
    have L1 := L1.kept k2
    have L2 := L2.kept k2
    have L3 := L3.kept k2
    have r0 := L3.cell 0 rfl
    have r1 := L3.cell 1 rfl
    have r2 := L3.cell 2 rfl
    have rl := L3.lt
    have rf0 := L3.frozen 0
    have rf1 := L3.frozen 1
    have rf2 := L3.frozen 2
    have s0 := L1.cell 0 rfl
    have s1 := L1.cell 1 rfl
    have s2 := L1.cell 2 rfl
    have sl := L1.lt
    have sf0 := L1.frozen 0
    have sf1 := L1.frozen 1
    have sf2 := L1.frozen 2
    dsimp only
    repeat (first | go_values | go_skip | go_guarded | go_step | go_upon)
    go_at_call 43
    refine (scolor _ _).mono ?_
    rintro e u3 ⟨rfl, hu3⟩
    rw [hu3, dC]
    clear hu3 u3
    dsimp only
    repeat (first | go_values | go_skip | go_guarded | go_step | go_upon)
    refine bodyPost_ret (v := .tuple #[.agg #[.int .i64 0, .int .i64 0, .slice none 0 0], .bool false]) (by simp [results, Try.results27, go_sem, *]) rfl ?_
    exact ⟨_, rfl, no_sheet _ _ _, ((K2.setNew (by simp; omega) _).setNew (by simp; omega) _).setNew (by simp; omega) _⟩
  have dC : decide (0 ≤ col ∧ col ≤ 16777215) = true := decide_eq_true hC
  rw [show boxA c x y a b col = ((c.1, c.2.1, boxN c x y a b col c.2.2.length), true) from if_pos ⟨hP, hB, hC⟩]
  obtain ⟨hW, hH, hL, _⟩ := hP
  have hpos : 0 < c.2.2.length := by have := mul_in hW.1 hW.2 hH.1 hH.2; omega
  have HB : Hid _ := hB
  have HL : Hid ((c.2.2.length : Int) = c.1 * c.2.1) := hL
  clear hB hC hL
  go_enter Try.func27, Try.ntmps27
  repeat (first | go_values | go_skip | go_guarded | go_step | go_upon)
  go_at_call 23
  refine (sgood c _ _ (hv.kept ((((But.refl _ _ _).alloc _).alloc _).alloc _)) (by omega)).mono ?_
  rintro e u1 ⟨rfl, k1⟩
  rw [dP]
  have K1 : Kept w u1 := ((((But.refl _ _ _).alloc _).alloc _).alloc _).trans k1
  have L1 := (((Loc.new w [.int .i64 c.1, .int .i64 c.2.1, .slice ao c.2.2.length cap] 49).alloc (.cells #[.int .i64 x, .int .i64 y, .int .i64 a, .int .i64 b] 27)).alloc (.cells #[.int .i64 0, .int .i64 0, .slice none 0 0] 49)).kept k1
  have L2 := ((Loc.new (w.alloc (.cells #[.int .i64 c.1, .int .i64 c.2.1, .slice ao c.2.2.length cap] 49)) [.int .i64 x, .int .i64 y, .int .i64 a, .int .i64 b] 27).alloc (.cells #[.int .i64 0, .int .i64 0, .slice none 0 0] 49)).kept k1
  have L3 := (Loc.new ((w.alloc (.cells #[.int .i64 c.1, .int .i64 c.2.1, .slice ao c.2.2.length cap] 49)).alloc (.cells #[.int .i64 x, .int .i64 y, .int .i64 a, .int .i64 b] 27)) [.int .i64 0, .int .i64 0, .slice none 0 0] 49).kept k1
  simp only [World.size_alloc] at L2 L3
  have b0 := L2.cell 0 rfl
  have b1 := L2.cell 1 rfl
  have b2 := L2.cell 2 rfl
  have b3 := L2.cell 3 rfl
  have bl := L2.lt
  have r0 := L3.cell 0 rfl
  have r1 := L3.cell 1 rfl
  have r2 := L3.cell 2 rfl
  have rl := L3.lt
  have rf0 := L3.frozen 0
  have rf1 := L3.frozen 1
  have rf2 := L3.frozen 2
  dsimp only
  repeat (first | go_values | go_skip | go_guarded | go_step | go_upon)
  go_at_call 36
  refine (sbox _ _ _ _ _).mono ?_
  rintro e u2 ⟨rfl, k2⟩
  rw [dB]
  have K2 := K1.trans k2
  clear b0 b1 b2 b3 bl
  clear r0 r1 r2 rl rf0 rf1 rf2
  have L1 := L1.kept k2
  have L2 := L2.kept k2
  have L3 := L3.kept k2
  have r0 := L3.cell 0 rfl
  have r1 := L3.cell 1 rfl
  have r2 := L3.cell 2 rfl
  have rl := L3.lt
  have rf0 := L3.frozen 0
  have rf1 := L3.frozen 1
  have rf2 := L3.frozen 2
  have s0 := L1.cell 0 rfl
  have s1 := L1.cell 1 rfl
  have s2 := L1.cell 2 rfl
  have sl := L1.lt
  have sf0 := L1.frozen 0
  have sf1 := L1.frozen 1
  have sf2 := L1.frozen 2
  dsimp only
  repeat (first | go_values | go_skip | go_guarded | go_step | go_upon)
  go_at_call 43
  refine (scolor _ _).mono ?_
  rintro e u3 ⟨rfl, hu3⟩
  rw [hu3, dC]
  clear hu3 u3
  dsimp only
  obtain ⟨i0, hi0, hz0, hz1, hz2⟩ := info_parts info_num
  repeat (first
    | (at_builtin
       refine wpList_append_any _ rfl _ _ 34 rfl u2.heap.size 3 i0 (.int .i64 0) 1 8 Try.underlying34 hi0 hz0 hz1 hz2 rfl (by decide) _ _ _ rfl (own_new u2 3) ao c.2.2.length cap (c.2.2.flatMap numC) rfl (flat_len 1 numC numC_len c.2.2) (row_src (hv.row.kept (K2.alloc _))) (ones c.2.2) (by unfold maxLen; omega) (by omega) (by simp) ?_
       intro v4 u4 hown hgrow
       rw [Nat.zero_add, List.nil_append] at hown
       have o4 : NumO u4 u2.heap.size u4.heap.size v4 c.2.2 := RowO.top hown
       obtain ⟨g, cg, ef⟩ := own_some o4 hpos
       subst ef
       have k4 : Kept u2 u4 := ((But.refl _ _ u2).alloc (.cells #[] 3)).grown hgrow (by intro x hx; cases hx; simp)
       have K3 := K2.trans k4
       have hu2 := L3.lt
       clear hgrow hown
       clear s0 s1 s2 sl sf0 sf1 sf2 r0 r1 r2 rl rf0 rf1 rf2
       have L1 := L1.kept k4
       have L2 := L2.kept k4
       have L3 := L3.kept k4
       have ne0 : w.heap.size + 3 ≤ g := (by rcases o4.1.2 with ⟨hf, _⟩ | ⟨g', c2, cur, hf, hb, _⟩ <;> cases hf; omega)
       have ne1 : g ≠ w.heap.size := (by omega)
       have s0 := L1.cell 0 rfl
       have s1 := L1.cell 1 rfl
       have s2 := L1.cell 2 rfl
       have sl := L1.lt
       have sf0 := L1.frozen 0
       have sf1 := L1.frozen 1
       have sf2 := L1.frozen 2)
    | go_values | go_skip | go_guarded | go_step | go_upon)
  obtain ⟨X, hX⟩ : ∃ X, X = u4.setCell ⟨w.heap.size, 2, none⟩ (.slice (some ⟨g, 0, none⟩) c.2.2.length cg) := ⟨_, rfl⟩
  have hg := own_lt o4.1 (g := g) rfl
  have LX : Loc X w.heap.size [.int .i64 c.1, .int .i64 c.2.1, .slice (some ⟨g, 0, none⟩) c.2.2.length cg] := by rw [hX]; exact L1.set 2 _
  have LB : Loc X (w.heap.size + 1) [.int .i64 x, .int .i64 y, .int .i64 a, .int .i64 b] := by rw [hX]; exact L2.other (j := 2) (by omega) _
  have LR : Loc X (w.heap.size + 1 + 1) [.int .i64 0, .int .i64 0, .slice none 0 0] := by rw [hX]; exact L3.other (j := 2) (by omega) _
  have KX : Kept w X := by rw [hX]; exact K3.setNew (by simp) _
  have hXs : X.heap.size = u4.heap.size := by rw [hX]; simp
  have OX : NumO X (w.heap.size + 3) X.heap.size (.slice (some ⟨g, 0, none⟩) c.2.2.length cg) c.2.2 := by
    rw [hXs, hX]
    exact (o4.but ((But.refl w.heap.size (w.heap.size + 1) u4).setCell (p := ⟨w.heap.size, 2, none⟩) (by simp) (by simp) _) (by omega)).mono (by omega) (Nat.le_refl _)
  rw [← hX]
  clear hX hXs L1 L2 L3 K1 K2 K3 k1 k2 k4 o4 hg s0 s1 s2 sl sf0 sf1 sf2 dP dB dC
  obtain ⟨N, hN⟩ : ∃ N, X.heap.size = N := ⟨_, rfl⟩
  have NS : w.heap.size + 3 ≤ N := by have := LR.lt; omega
  have hNX : Hid (X.heap.size = N) := hN
  rw [hN] at OX
  clear hN
  obtain ⟨A, hA⟩ : ∃ A : Nat, c.1 = (A : Int) := ⟨c.1.toNat, by omega⟩
  obtain ⟨B, hBB⟩ : ∃ B : Nat, c.2.1 = (B : Int) := ⟨c.2.1.toNat, by omega⟩
  have HA : Hid (c.1 = (A : Int)) := hA
  have HBB : Hid (c.2.1 = (B : Int)) := hBB
  have hA1 : 1 ≤ A ∧ A ≤ 24 := by omega
  have hB1 : 1 ≤ B ∧ B ≤ 24 := by omega
  have HLN : Hid (c.2.2.length = B * A) := show c.2.2.length = B * A by
    have h1 := HL.out
    rw [hA, hBB, Int.mul_comm] at h1
    have h2 : ((c.2.2.length : Nat) : Int) = ((B * A : Nat) : Int) := by push_cast; exact h1
    exact Int.ofNat.inj h2
  clear hA hBB
  go_loopw [8] (fun i wr => ∃ (r : Nat), r ≤ B ∧ i = .int .i64 r ∧ NumO wr (w.heap.size + 3) N (.slice (some ⟨g, 0, none⟩) c.2.2.length cg) (boxN c x y a b col (r * A)) ∧ Loc wr w.heap.size [.int .i64 c.1, .int .i64 c.2.1, .slice (some ⟨g, 0, none⟩) c.2.2.length cg] ∧ Loc wr (w.heap.size + 1) [.int .i64 x, .int .i64 y, .int .i64 a, .int .i64 b] ∧ Loc wr (w.heap.size + 1 + 1) [.int .i64 0, .int .i64 0, .slice none 0 0] ∧ Kept w wr) (fun i _ => B - (intOf i).toNat)
  case atStart => exact ⟨0, by omega, rfl, by rw [Nat.zero_mul]; exact OX, LX, LB, LR, KX⟩
  case round =>
    obtain ⟨r, hr, rfl, ho, l1, l2, l3, hk9⟩ := hrel
    have s0 := l1.cell 0 rfl
    have s1 := l1.cell 1 rfl
    have sl := l1.lt
    by_cases hlt : r < B
    · have dr : decide ((r : Int) < c.2.1) = true := decide_eq_true (by have := HBB.out; omega)
      have HO : Hid (NumO wr (w.heap.size + 3) N (.slice (some ⟨g, 0, none⟩) c.2.2.length cg) (boxN c x y a b col (r * A))) := ho
      have HKK : Hid (Kept w wr) := hk9
      have H1 : Hid (Loc wr w.heap.size [.int .i64 c.1, .int .i64 c.2.1, .slice (some ⟨g, 0, none⟩) c.2.2.length cg]) := l1
      have H2 : Hid (Loc wr (w.heap.size + 1) [.int .i64 x, .int .i64 y, .int .i64 a, .int .i64 b]) := l2
      have H3 : Hid (Loc wr (w.heap.size + 1 + 1) [.int .i64 0, .int .i64 0, .slice none 0 0]) := l3
      clear ho hk9 l1 l2 l3 OX LX LB LR KX
      repeat (first | go_values | go_skip | go_guarded | go_step | go_upon)
      clear s0 s1 sl dr
      have INN : Hid (NumO wr (w.heap.size + 3) N (.slice (some ⟨g, 0, none⟩) c.2.2.length cg) (boxN c x y a b col (r * A + 0))) := HO.out
      go_loopw [9] (fun i wr => ∃ (q : Nat), q ≤ A ∧ i = .int .i64 q ∧ NumO wr (w.heap.size + 3) N (.slice (some ⟨g, 0, none⟩) c.2.2.length cg) (boxN c x y a b col (r * A + q)) ∧ Loc wr w.heap.size [.int .i64 c.1, .int .i64 c.2.1, .slice (some ⟨g, 0, none⟩) c.2.2.length cg] ∧ Loc wr (w.heap.size + 1) [.int .i64 x, .int .i64 y, .int .i64 a, .int .i64 b] ∧ Loc wr (w.heap.size + 1 + 1) [.int .i64 0, .int .i64 0, .slice none 0 0] ∧ Kept w wr) (fun i _ => A - (intOf i).toNat)
      case atStart => exact ⟨0, by omega, rfl, INN.out, H1.out, H2.out, H3.out, HKK.out⟩
      case round =>
        clear HO H1 H2 H3 HKK INN
        obtain ⟨q, hq, rfl, ho, l1, l2, l3, hk9⟩ := hrel
        have s0 := l1.cell 0 rfl
        have s1 := l1.cell 1 rfl
        have s2 := l1.cell 2 rfl
        have sl := l1.lt
        by_cases hlq : q < A
        · have dq : decide ((q : Int) < c.1) = true := decide_eq_true (by have := HA.out; omega)
          have b0 := l2.cell 0 rfl
          have b1 := l2.cell 1 rfl
          have b2 := l2.cell 2 rfl
          have b3 := l2.cell 3 rfl
          have bl := l2.lt
          have hbb := HB.out
          obtain ⟨⟨j1, j2⟩, ⟨j3, j4⟩, ⟨j5, j6⟩, j7, j8⟩ := hbb
          have HQ := box_step c x y a b col A B r q HA.out HBB.out hlq hlt
          have HO : Hid (NumO wr (w.heap.size + 3) N (.slice (some ⟨g, 0, none⟩) (boxN c x y a b col (r * A + q)).length cg) (boxN c x y a b col (r * A + q))) := show NumO _ _ _ _ _ by rw [boxN_len]; exact ho
          have HKK : Hid (Kept w wr) := hk9
          have H1 : Hid (Loc wr w.heap.size [.int .i64 c.1, .int .i64 c.2.1, .slice (some ⟨g, 0, none⟩) c.2.2.length cg]) := l1
          have H2 : Hid (Loc wr (w.heap.size + 1) [.int .i64 x, .int .i64 y, .int .i64 a, .int .i64 b]) := l2
          have H3 : Hid (Loc wr (w.heap.size + 1 + 1) [.int .i64 0, .int .i64 0, .slice none 0 0]) := l3
          have hgl := own_lt ho.1 (g := g) rfl
          have PUT : Hid (Calls Try.prog 47 #[.agg #[.int .i64 c.1, .int .i64 c.2.1, .slice (some ⟨g, 0, none⟩) c.2.2.length cg], .int .i64 (q : Int), .int .i64 (r : Int), .int .i64 col] wr fun e w' => e = .returned (.tuple #[]) ∧ NumO w' (w.heap.size + 3) N (.slice (some ⟨g, 0, none⟩) (boxN c x y a b col (r * A + q)).length cg) (putL c.1 c.2.1 (boxN c x y a b col (r * A + q)) q r col) ∧ But g (g + 1) wr w') := show Calls _ _ _ _ _ by
            have := sput c.1 c.2.1 q r col (boxN c x y a b col (r * A + q)) g cg (w.heap.size + 3) N wr HO.out hW hH (by rw [boxN_len]; exact HL.out)
            rw [boxN_len] at this ⊢
            exact this
          clear ho hk9 l1 l2 l3
          rcases (Decidable.em (x ≤ (q : Int) ∧ (q : Int) ≤ x + a - 1)).symm with h1 | h1
          · have d1 : decide (x ≤ (q : Int) ∧ (q : Int) ≤ x + a - 1) = false := decide_eq_false h1
            rw [if_neg (fun h => h1 h.1)] at HQ
            have HQ : Hid _ := HQ
            clear h1
            repeat (first | (go_at_call 35; refine (sInG _ _ _ _).mono ?_; rintro e w3 ⟨rfl, hw3⟩; rw [hw3]; clear hw3 w3; (first | rw [d1]); dsimp only) | go_values | go_skip | go_guarded | go_step | go_upon)
            exact ⟨⟨q + 1, hlq, by go_num, by rw [show r * A + (q + 1) = r * A + q + 1 by omega, HQ.out, ← boxN_len c x y a b col (r * A + q)]; exact HO.out, H1.out, H2.out, H3.out, HKK.out⟩, by simp [intOf]; omega⟩
          have d1 : decide (x ≤ (q : Int) ∧ (q : Int) ≤ x + a - 1) = true := decide_eq_true h1
          rcases (Decidable.em (y ≤ (r : Int) ∧ (r : Int) ≤ y + b - 1)).symm with h2 | h2
          · have d2 : decide (y ≤ (r : Int) ∧ (r : Int) ≤ y + b - 1) = false := decide_eq_false h2
            rw [if_neg (fun h => h2 h.2)] at HQ
            have HQ : Hid _ := HQ
            clear h1 h2
            repeat (first | (go_at_call 35; refine (sInG _ _ _ _).mono ?_; rintro e w3 ⟨rfl, hw3⟩; rw [hw3]; clear hw3 w3; (first | rw [d1] | rw [d2]); dsimp only) | go_values | go_skip | go_guarded | go_step | go_upon)
            exact ⟨⟨q + 1, hlq, by go_num, by rw [show r * A + (q + 1) = r * A + q + 1 by omega, HQ.out, ← boxN_len c x y a b col (r * A + q)]; exact HO.out, H1.out, H2.out, H3.out, HKK.out⟩, by simp [intOf]; omega⟩
          have d2 : decide (y ≤ (r : Int) ∧ (r : Int) ≤ y + b - 1) = true := decide_eq_true h2
          rw [if_pos ⟨h1, h2⟩] at HQ
          have HQ : Hid _ := HQ
          clear h1 h2
          repeat (first | (go_at_call 35; refine (sInG _ _ _ _).mono ?_; rintro e w3 ⟨rfl, hw3⟩; rw [hw3]; clear hw3 w3; (first | rw [d1] | rw [d2]); dsimp only) | (go_at_call 47; refine PUT.out.mono ?_; rintro e w7 ⟨rfl, o7, b7⟩; dsimp only) | go_values | go_skip | go_guarded | go_step | go_upon)
          exact ⟨⟨q + 1, hlq, by go_num, by rw [show r * A + (q + 1) = r * A + q + 1 by omega, HQ.out, ← boxN_len c x y a b col (r * A + q)]; exact o7, H1.out.but b7 (by omega), H2.out.but b7 (by omega), H3.out.but b7 (by omega), HKK.out.onto b7 (by omega)⟩, by simp [intOf]; omega⟩
        · have HQE : Hid (q = A) := show q = A by omega
          have dq : decide ((q : Int) < c.1) = false := decide_eq_false (by have := HA.out; omega)
          have HO : Hid (NumO wr (w.heap.size + 3) N (.slice (some ⟨g, 0, none⟩) c.2.2.length cg) (boxN c x y a b col (r * A + q))) := ho
          have HKK : Hid (Kept w wr) := hk9
          have H1 : Hid (Loc wr w.heap.size [.int .i64 c.1, .int .i64 c.2.1, .slice (some ⟨g, 0, none⟩) c.2.2.length cg]) := l1
          have H2 : Hid (Loc wr (w.heap.size + 1) [.int .i64 x, .int .i64 y, .int .i64 a, .int .i64 b]) := l2
          have H3 : Hid (Loc wr (w.heap.size + 1 + 1) [.int .i64 0, .int .i64 0, .slice none 0 0]) := l3
          clear ho hk9 l1 l2 l3
          repeat (first | go_values | go_skip | go_guarded | go_step | go_upon)
          exact ⟨⟨r + 1, hlt, by go_num, by rw [show (r + 1) * A = r * A + q by rw [HQE.out, Nat.add_mul, Nat.one_mul]]; exact HO.out, H1.out, H2.out, H3.out, HKK.out⟩, by simp [intOf]; omega⟩
    · have hre : r = B := by omega
      have dr : decide ((r : Int) < c.2.1) = false := decide_eq_false (by have := HBB.out; omega)
      have ho : NumO wr (w.heap.size + 3) N (.slice (some ⟨g, 0, none⟩) c.2.2.length cg) (boxN c x y a b col c.2.2.length) := by rw [show c.2.2.length = r * A by rw [hre]; exact HLN.out]; rw [show c.2.2.length = r * A by rw [hre]; exact HLN.out] at ho; exact ho
      clear hre
      clear s0 s1 sl
      have OF : NumO wr (w.heap.size + 3) N (.slice (some ⟨g, 0, none⟩) c.2.2.length cg) (boxN c x y a b col c.2.2.length) := ho
      have hN := NS
      have s0 := l1.cell 0 rfl
      have s1 := l1.cell 1 rfl
      have s2 := l1.cell 2 rfl
      have sl := l1.lt
      have r0 := l3.cell 0 rfl
      have r1 := l3.cell 1 rfl
      have r2 := l3.cell 2 rfl
      have rl := l3.lt
      have rf0 := l3.frozen 0
      have rf1 := l3.frozen 1
      have rf2 := l3.frozen 2
      have HO : Hid _ := OF
      have HK : Hid (Kept w wr) := hk9
      clear OF ho hk9
      repeat (first | go_values | go_skip | go_guarded | go_step | go_upon)
      have B : But (w.heap.size + 1 + 1) (w.heap.size + 3) wr (((wr.setCell ⟨w.heap.size + 1 + 1, 0, none⟩ (.int .i64 c.1)).setCell ⟨w.heap.size + 1 + 1, 1, none⟩ (.int .i64 c.2.1)).setCell ⟨w.heap.size + 1 + 1, 2, none⟩ (.slice (some ⟨g, 0, none⟩) c.2.2.length cg)) :=
        (((But.refl _ _ _).setCell (by simp) (by simp) _).setCell (by simp) (by simp) _).setCell (by simp) (by simp) _
      have LF := ((l3.set 0 (.int .i64 c.1)).set 1 (.int .i64 c.2.1)).set 2 (.slice (some ⟨g, 0, none⟩) c.2.2.length cg)
      have t0 := LF.cell 0 rfl
      have t1 := LF.cell 1 rfl
      have t2 := LF.cell 2 rfl
      refine bodyPost_ret (v := .tuple #[.agg #[.int .i64 c.1, .int .i64 c.2.1, .slice (some ⟨g, 0, none⟩) c.2.2.length cg], .bool true]) (by simp [results, Try.results27, go_sem, t0, t1, t2]) rfl ?_
      exact ⟨_, rfl, ⟨_, by simp only [boxN_len], (NumO.low ((HO.out.but B (by omega)).mono (lo' := w.heap.size) (hi' := N) (by omega) (Nat.le_refl _)))⟩, HK.out.onto B (by omega)⟩

end Go.Proofs.Ytoimpkhgdpkhkaa
