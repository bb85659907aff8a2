/-
  A drawn field.
-/
import Derived.Test.YtopakblckajdmaaCur
import Derived.Test.YtopakblckajdmaaClone14
import Derived.Test.YtopakblckajdmaaFieldF
namespace Go.Proofs.Ytopakblckajdmaa
open Go.ChangeShapes Go.WideShapes Go.ChangeAt Go.RowKit

set_option maxRecDepth 100000
set_option linter.unusedVariables false

theorem Listed.of {w : World} {l : Nat} {zs : List Int} (h : Loc w l (zs.map fun z => Value.int .i64 z)) : Listed w l zs := fun i hi => h.cell i (by simp [List.getD_eq_getElem?_getD, hi])
theorem Loc.cur {w w' : World} {b c : Nat} {cs : List Value} (h : Loc w c cs) (k : But b (b + 1) w w') (hc : c ≠ b) : Loc w' c cs := h.but k (by omega)
theorem pick_one (w : World) (b : Nat) (K : Int) (h : CurOk w b K) (hK : K ≤ 1152921504606846900) :
    Calls Try.prog 79 #[.pointer (some ⟨b, 0, none⟩), .int .i64 1] w (Drawn b (K + 2) (fun r => 0 ≤ r ∧ r < 1) w) := by
  go_enter Try.func79, Try.ntmps79
  repeat (first | go_values | go_skip | go_guarded | go_step | go_upon)
  go_ret
  exact ⟨0, rfl, by omega, h.le (by omega), But.refl _ _ _⟩
theorem pick_any (w : World) (b : Nat) (K n : Int) (h : CurOk w b K) (hK : K ≤ 1152921504606846900) (h1 : 0 < n) :
    Calls Try.prog 79 #[.pointer (some ⟨b, 0, none⟩), .int .i64 n] w (Drawn b (K + 2) (fun r => 0 ≤ r ∧ r < n) w) := by
  by_cases h2 : n = 1
  · subst h2; exact pick_one w b K h hK
  · exact pick_ok w b K n h hK (by omega)

set_option maxHeartbeats 8000000 in
theorem field_ok (w : World) (b : Nat) (K s : Int) (h : CurOk w b K) (hK : 0 ≤ K ∧ K ≤ 1000000) (hs : 0 ≤ s ∧ s ≤ 7) :
    Calls Try.prog 69 #[.pointer (some ⟨b, 0, none⟩), .int .i64 s] w fun e w' => ∃ f v', e = .returned v' ∧ FieldO w' w.heap.size w'.heap.size v' f ∧ f.2.2.length ≤ 100 ∧ CurOk w' b (K + 1000) ∧ But b (b + 1) w w' := by
  obtain ⟨i0, hi0, hz0, hz1, hz2⟩ := info_parts info_num
  have hbw := h.lt
  go_enter Try.func69, Try.ntmps69
  repeat (first | go_values | go_skip | go_guarded | go_step | go_upon)
  go_at_call 79
  refine (pick_ok _ b K 4 (h.alloc _) (by omega) (by omega)).mono ?_
  rintro e w1 ⟨z1, rfl, hz1', hC1, hg1⟩
  have ZR1 := (Loc.new w [.int .i64 0, .int .i64 0, .slice none 0 0] 28).cur hg1 (by omega)
  dsimp only
  repeat (first | go_values | go_skip | go_guarded | go_step | go_upon)
  go_at_call 79
  refine (pick_ok _ b (K + 2) 4 hC1 (by omega) (by omega)).mono ?_
  rintro e w2 ⟨z2, rfl, hz2', hC2, hg2⟩
  have ZR2 := ZR1.cur hg2 (by omega)
  have G2 : But b (b + 1) w w2 := (((But.refl _ _ _).alloc _).trans hg1).trans hg2
  have s2 := ZR2.lt
  clear hC1 hg1 hg2 ZR1
  dsimp only
  repeat (first | go_values | go_skip | go_guarded | go_step | go_upon)
  go_at_call 71
  refine (one_ok _ b (K + 2 + 2) 30 (hC2.alloc _) (by omega) (by omega)).mono ?_
  rintro e w3 ⟨y, rfl, hC3, hg3⟩
  have T3 := (Loc.new w2 [.int .i64 (1 + z1), .int .i64 (1 + z2), .slice none 0 0] 28).cur hg3 (by have := hC2.lt; omega)
  have j3 : But b (b + 1) w2 w3 := ((But.refl _ _ _).alloc _).trans hg3
  have ZR3 := ZR2.cur j3 (by omega)
  have G3 := G2.trans j3
  have hb2 := hC2.lt
  obtain ⟨T5, hT5⟩ : ∃ t, w2.heap.size = t := ⟨_, rfl⟩
  rw [hT5] at T3 s2 hb2 ⊢
  clear hg3 j3 ZR2 G2 hC2 hT5
  cases y
  · dsimp only
    obtain ⟨W2, hW2⟩ : ∃ x, x = w3 := ⟨_, rfl⟩
    obtain ⟨wd, hwd⟩ : ∃ x, x = 1 + z1 := ⟨_, rfl⟩
    obtain ⟨hg9, hhg⟩ : ∃ x, x = 1 + z2 := ⟨_, rfl⟩
    rw [← hwd, ← hhg] at T3 ⊢
    have hwb : 0 ≤ wd ∧ wd ≤ 7 := by omega
    have hhb : 1 ≤ hg9 ∧ hg9 ≤ 4 := by omega
    rw [← hW2] at T3 ZR3 hC3 G3 ⊢
    have hC3 := hC3.le (show K + 2 + 2 + 2 ≤ K + 8 by omega)
    clear hwd hhg hz1' hz2' hW2
    have t0 := T3.cell 0 rfl
    have t1 := T3.cell 1 rfl
    have hpr := Int.mul_nonneg hwb.1 (show 0 ≤ hg9 by omega)
    have hpl : wd * hg9 ≤ 7 * 4 := Int.mul_le_mul hwb.2 hhb.2 (by omega) (by omega)
    obtain ⟨tot, htot⟩ : ∃ t : Nat, wd * hg9 = (t : Int) := ⟨(wd * hg9).toNat, by omega⟩
    have ht28 : tot ≤ 28 := by omega
    have ewr : IntKind.i64.wrap (tot : Int) = (tot : Int) := IntWalk.i64_in _ (by omega)
    clear hpr hpl
    try dsimp only
    repeat (first | go_values | go_skip | go_guarded | go_step | go_upon)
    clear ewr
    clear t0 t1
    have hbT : b ≠ T5 ∧ b < w.heap.size ∧ w.heap.size < T5 := ⟨by omega, hbw, by omega⟩
    have hTW := T3.lt
    have hbW : b < W2.heap.size := by omega
    go_loopw [6] (fun n wr => ∃ (k : Nat) (xs : List Int) (ao : Option Addr) (c : Nat), k ≤ 28 ∧ k + xs.length = tot ∧ n = .int .i64 k ∧ Loc wr T5 [.int .i64 wd, .int .i64 hg9, .slice ao xs.length c] ∧ wr.ownsRow W2.heap.size 3 1 (.slice ao xs.length c) xs.length (xs.flatMap numC) ∧ Loc wr w.heap.size [.int .i64 0, .int .i64 0, .slice none 0 0] ∧ CurOk wr b (K + 8 + 8 * (xs.length : Int)) ∧ But b (b + 1) w wr ∧ W2.heap.size ≤ wr.heap.size) (fun n _ => (intOf n).toNat)
    case atStart => exact ⟨tot, [], none, 0, ht28, rfl, rfl, T3, World.ownsRow_nil _ _ _ _, ZR3, by simpa using hC3, G3, Nat.le_refl _⟩
    case round =>
      obtain ⟨k, xs, ao, c, hk28, hkx, rfl, LT, HO, ZR, hC, hg1, hg2⟩ := hrel
      have hg : But b (b + 1) w wr ∧ W2.heap.size ≤ wr.heap.size := ⟨hg1, hg2⟩
      clear hg1 hg2
      by_cases hk0 : 0 < k
      · obtain ⟨k', hk'⟩ : ∃ k', k = k' + 1 := ⟨k - 1, by omega⟩
        have dk : decide (0 < (k : Int)) = true := by simp; omega
        have dk2 : decide (0 < k) = true := decide_eq_true hk0
        have hk1 : IntKind.i64.wrap ((k : Int) - 1) = (k' : Int) := by rw [IntWalk.i64_in _ (by omega)]; omega
        have hk2 : (k : Int) - 1 = (k' : Int) := by omega
        repeat (first | go_values | go_skip | go_guarded | go_step | go_upon)
        go_at_call 71
        refine (one_ok _ b (K + 8 + 8 * (xs.length : Int)) 4 hC (by omega) (by omega)).mono ?_
        rintro e wa ⟨y1, rfl, hC, hga⟩
        have LT := LT.cur hga (by omega)
        have ZR := ZR.cur hga (by omega)
        have HO := own_but HO hga (fun g hg => by have := own_lt HO hg; omega)
        have hg : But b (b + 1) w wa ∧ W2.heap.size ≤ wa.heap.size := ⟨hg.1.trans hga, by have := (hga).size; omega⟩
        clear hga
        cases y1
        · dsimp only
          repeat (first | go_values | go_skip | go_guarded | go_step | go_upon)
          go_at_call 71
          refine (one_ok _ b (K + 8 + 8 * (xs.length : Int) + 2) 400 hC (by omega) (by omega)).mono ?_
          rintro e wc ⟨y2, rfl, hC, hg2⟩
          have LT := LT.cur hg2 (by omega)
          have ZR := ZR.cur hg2 (by omega)
          have HO := own_but HO hg2 (fun g hg => by have := own_lt HO hg; omega)
          have hg : But b (b + 1) w wc ∧ W2.heap.size ≤ wc.heap.size := ⟨hg.1.trans hg2, by have := hg2.size; omega⟩
          clear hg2
          cases y2
          · dsimp only
            have e0 := LT.cell 0 rfl
            have e1 := LT.cell 1 rfl
            have e2 := LT.cell 2 rfl
            have hlt5 := LT.lt
            have HLT : Hid (Loc wc T5 [.int .i64 wd, .int .i64 hg9, .slice ao xs.length c]) := LT
            have HO9 : Hid (wc.ownsRow W2.heap.size 3 1 (.slice ao xs.length c) xs.length (xs.flatMap numC)) := HO
            have HZR : Hid (Loc wc w.heap.size [.int .i64 0, .int .i64 0, .slice none 0 0]) := ZR
            have HCC : Hid (CurOk wc b (K + 8 + 8 * (xs.length : Int) + 2 + 2)) := hC
            have HGG : Hid (But b (b + 1) w wc ∧ W2.heap.size ≤ wc.heap.size) := hg
            clear LT HO ZR hC hg
            repeat (first | (at_builtin; refine forgetL (fun w' => w' = _) rfl ?_) | go_values | go_skip | go_guarded | go_step | go_upon)
            intro W7 hW7
            have K7 : Kept wc W7 := by rw [hW7]; exact (But.refl _ _ _).alloc _
            have N7 : Loc W7 wc.heap.size [.int .i64 (-1)] := by rw [hW7]; exact Loc.new wc _ _
            have s7 := K7.size
            clear hW7
            refine wpList_append_own _ rfl _ _ 26 rfl W2.heap.size 3 i0 (.int .i64 0) 1 8 Try.underlying26 hi0 hz0 hz1 hz2 rfl (by decide) (.slice ao xs.length c) xs.length (xs.flatMap numC) rfl (own_kept HO9.out K7) ⟨wc.heap.size, 0, none⟩ 1 1 [.int .i64 (-1)] rfl rfl (news1 N7) (by simp [Value.oneCell']) (by unfold maxLen; omega) (by omega) (by have := HGG.out.2; omega) ?_
            intro v' w8 hown' hgrow _
            obtain ⟨ao5, cap5, hf5, _⟩ := own_form hown'
            subst hf5
            have L8 := (HLT.out.kept K7).grown hgrow (fun e => by have := own_lt HO9.out e; omega)
            have Z8 := (HZR.out.kept K7).grown hgrow (fun e => by have := own_lt HO9.out e; omega)
            have C8 : CurOk w8 b (K + 8 + 8 * (xs.length : Int) + 2 + 2) := by
              have h1 := HCC.out.kept K7
              exact h1.but ((But.refl W2.heap.size W7.heap.size W7).grown hgrow (fun k hk => .inr (own_lt (own_kept HO9.out K7) hk))) hbW
            have G8 : But b (b + 1) w w8 := ((HGG.out.1).transK K7).grown hgrow (fun k hk => .inl (by have := own_lt HO9.out hk; omega))
            have s8 := hgrow.size
            have x2 := L8.cell 2 rfl
            have x2f := L8.frozen 2
            have M8 := L8.set 2 (.slice ao5 (xs.length + 1) cap5)
            simp only [List.set_cons_zero, List.set_cons_succ] at M8
            have HR8 : Hid (Loc (w8.setCell ⟨T5, 2, none⟩ (.slice ao5 (xs.length + 1) cap5)) T5 [.int .i64 wd, .int .i64 hg9, .slice ao5 (xs.length + 1) cap5] ∧ Loc (w8.setCell ⟨T5, 2, none⟩ (.slice ao5 (xs.length + 1) cap5)) w.heap.size [.int .i64 0, .int .i64 0, .slice none 0 0] ∧ CurOk (w8.setCell ⟨T5, 2, none⟩ (.slice ao5 (xs.length + 1) cap5)) b (K + 8 + 8 * (xs.length : Int) + 2 + 2) ∧ But b (b + 1) w (w8.setCell ⟨T5, 2, none⟩ (.slice ao5 (xs.length + 1) cap5))) := ⟨M8, Z8.other (b' := T5) (j := 2) (by omega) _, C8.set (by omega) 2 _, G8.setNew (by simp; omega) _⟩
            have HW8 : Hid (World.ownsRow (w8.setCell ⟨T5, 2, none⟩ (.slice ao5 (xs.length + 1) cap5)) W2.heap.size 3 1 (.slice ao5 (xs.length + 1) cap5) (xs.length + 1) (xs.flatMap numC ++ [.int .i64 (-1)])) := own_but (lo := T5) (hi := T5 + 1) hown' ((But.refl _ _ _).setCell (by simp) (by simp) _) (fun g hg => by have := own_lt hown' hg; omega)
            have HS8 : Hid (W2.heap.size ≤ w8.heap.size) := by have := HGG.out.2; show _ ≤ _; omega
            clear hown' hgrow L8 Z8 C8 G8 M8 N7 HO9 HZR HCC HGG HLT K7
            dsimp only
            repeat (first | go_values | go_skip | go_guarded | go_step | go_upon)
            refine ⟨⟨k', xs ++ [(-1)], ao5, cap5, by omega, by rw [List.length_append]; simp only [List.length_cons, List.length_nil]; omega, by first | rfl | go_num, by rw [List.length_append]; exact HR8.out.1, ?_, HR8.out.2.1, by refine (HR8.out.2.2.1).le ?_; rw [List.length_append]; simp only [List.length_cons, List.length_nil]; omega, HR8.out.2.2.2, by simpa using HS8.out⟩, by simp [intOf]; omega⟩
            have h9 := HW8.out
            rw [List.flatMap_append, List.length_append]
            exact h9
          · dsimp only
            repeat (first | go_values | go_skip | go_guarded | go_step | go_upon)
            go_at_call 80
            refine (among_ok _ b _ (K + 8 + 8 * (xs.length : Int) + 2 + 2) [-2, s] (hC.alloc _) (by omega) (by have := hC.lt; omega) (Listed.of (Loc.new _ _ _)) (by simp) (by simp) 2 rfl).mono ?_
            rintro e wc2 ⟨z2, rfl, -, hC2, hg2⟩
            have j2 : But b (b + 1) wc wc2 := ((But.refl _ _ _).alloc _).trans hg2
            have LT := LT.cur j2 (by omega)
            have ZR := ZR.cur j2 (by omega)
            have HO := own_but HO j2 (fun g hg => by have := own_lt HO hg; omega)
            have hg : But b (b + 1) w wc2 ∧ W2.heap.size ≤ wc2.heap.size := ⟨hg.1.trans j2, by have := j2.size; omega⟩
            have hC := hC2
            clear hg2 hC2 j2
            dsimp only
            have e0 := LT.cell 0 rfl
            have e1 := LT.cell 1 rfl
            have e2 := LT.cell 2 rfl
            have hlt5 := LT.lt
            have HLT : Hid (Loc wc2 T5 [.int .i64 wd, .int .i64 hg9, .slice ao xs.length c]) := LT
            have HO9 : Hid (wc2.ownsRow W2.heap.size 3 1 (.slice ao xs.length c) xs.length (xs.flatMap numC)) := HO
            have HZR : Hid (Loc wc2 w.heap.size [.int .i64 0, .int .i64 0, .slice none 0 0]) := ZR
            have HCC : Hid (CurOk wc2 b (K + 8 + 8 * (xs.length : Int) + 2 + 2 + 2)) := hC
            have HGG : Hid (But b (b + 1) w wc2 ∧ W2.heap.size ≤ wc2.heap.size) := hg
            clear LT HO ZR hC hg
            repeat (first | (at_builtin; refine forgetL (fun w' => w' = _) rfl ?_) | go_values | go_skip | go_guarded | go_step | go_upon)
            intro W7 hW7
            have K7 : Kept wc2 W7 := by rw [hW7]; exact (But.refl _ _ _).alloc _
            have N7 : Loc W7 wc2.heap.size [.int .i64 (z2)] := by rw [hW7]; exact Loc.new wc2 _ _
            have s7 := K7.size
            clear hW7
            refine wpList_append_own _ rfl _ _ 26 rfl W2.heap.size 3 i0 (.int .i64 0) 1 8 Try.underlying26 hi0 hz0 hz1 hz2 rfl (by decide) (.slice ao xs.length c) xs.length (xs.flatMap numC) rfl (own_kept HO9.out K7) ⟨wc2.heap.size, 0, none⟩ 1 1 [.int .i64 (z2)] rfl rfl (news1 N7) (by simp [Value.oneCell']) (by unfold maxLen; omega) (by omega) (by have := HGG.out.2; omega) ?_
            intro v' w8 hown' hgrow _
            obtain ⟨ao5, cap5, hf5, _⟩ := own_form hown'
            subst hf5
            have L8 := (HLT.out.kept K7).grown hgrow (fun e => by have := own_lt HO9.out e; omega)
            have Z8 := (HZR.out.kept K7).grown hgrow (fun e => by have := own_lt HO9.out e; omega)
            have C8 : CurOk w8 b (K + 8 + 8 * (xs.length : Int) + 2 + 2 + 2) := by
              have h1 := HCC.out.kept K7
              exact h1.but ((But.refl W2.heap.size W7.heap.size W7).grown hgrow (fun k hk => .inr (own_lt (own_kept HO9.out K7) hk))) hbW
            have G8 : But b (b + 1) w w8 := ((HGG.out.1).transK K7).grown hgrow (fun k hk => .inl (by have := own_lt HO9.out hk; omega))
            have s8 := hgrow.size
            have x2 := L8.cell 2 rfl
            have x2f := L8.frozen 2
            have M8 := L8.set 2 (.slice ao5 (xs.length + 1) cap5)
            simp only [List.set_cons_zero, List.set_cons_succ] at M8
            have HR8 : Hid (Loc (w8.setCell ⟨T5, 2, none⟩ (.slice ao5 (xs.length + 1) cap5)) T5 [.int .i64 wd, .int .i64 hg9, .slice ao5 (xs.length + 1) cap5] ∧ Loc (w8.setCell ⟨T5, 2, none⟩ (.slice ao5 (xs.length + 1) cap5)) w.heap.size [.int .i64 0, .int .i64 0, .slice none 0 0] ∧ CurOk (w8.setCell ⟨T5, 2, none⟩ (.slice ao5 (xs.length + 1) cap5)) b (K + 8 + 8 * (xs.length : Int) + 2 + 2 + 2) ∧ But b (b + 1) w (w8.setCell ⟨T5, 2, none⟩ (.slice ao5 (xs.length + 1) cap5))) := ⟨M8, Z8.other (b' := T5) (j := 2) (by omega) _, C8.set (by omega) 2 _, G8.setNew (by simp; omega) _⟩
            have HW8 : Hid (World.ownsRow (w8.setCell ⟨T5, 2, none⟩ (.slice ao5 (xs.length + 1) cap5)) W2.heap.size 3 1 (.slice ao5 (xs.length + 1) cap5) (xs.length + 1) (xs.flatMap numC ++ [.int .i64 (z2)])) := own_but (lo := T5) (hi := T5 + 1) hown' ((But.refl _ _ _).setCell (by simp) (by simp) _) (fun g hg => by have := own_lt hown' hg; omega)
            have HS8 : Hid (W2.heap.size ≤ w8.heap.size) := by have := HGG.out.2; show _ ≤ _; omega
            clear hown' hgrow L8 Z8 C8 G8 M8 N7 HO9 HZR HCC HGG HLT K7
            dsimp only
            repeat (first | go_values | go_skip | go_guarded | go_step | go_upon)
            refine ⟨⟨k', xs ++ [(z2)], ao5, cap5, by omega, by rw [List.length_append]; simp only [List.length_cons, List.length_nil]; omega, by first | rfl | go_num, by rw [List.length_append]; exact HR8.out.1, ?_, HR8.out.2.1, by refine (HR8.out.2.2.1).le ?_; rw [List.length_append]; simp only [List.length_cons, List.length_nil]; omega, HR8.out.2.2.2, by simpa using HS8.out⟩, by simp [intOf]; omega⟩
            have h9 := HW8.out
            rw [List.flatMap_append, List.length_append]
            exact h9
        · dsimp only
          by_cases hs0 : 0 < s
          · have ds : decide (0 < s) = true := decide_eq_true hs0
            repeat (first | go_values | go_skip | go_guarded | go_step | go_upon)
            go_at_call 79
            refine (pick_any _ b (K + 8 + 8 * (xs.length : Int) + 2) s hC (by omega) hs0).mono ?_
            rintro e wb ⟨zp, rfl, -, hC, hgb⟩
            have LT := LT.cur hgb (by omega)
            have ZR := ZR.cur hgb (by omega)
            have HO := own_but HO hgb (fun g hg => by have := own_lt HO hg; omega)
            have hg : But b (b + 1) w wb ∧ W2.heap.size ≤ wb.heap.size := ⟨hg.1.trans hgb, by have := (hgb).size; omega⟩
            clear hgb
            dsimp only
            repeat (first | go_values | go_skip | go_guarded | go_step | go_upon)
            go_at_call 71
            refine (one_ok _ b (K + 8 + 8 * (xs.length : Int) + 2 + 2) 400 hC (by omega) (by omega)).mono ?_
            rintro e wc ⟨y2, rfl, hC, hg2⟩
            have LT := LT.cur hg2 (by omega)
            have ZR := ZR.cur hg2 (by omega)
            have HO := own_but HO hg2 (fun g hg => by have := own_lt HO hg; omega)
            have hg : But b (b + 1) w wc ∧ W2.heap.size ≤ wc.heap.size := ⟨hg.1.trans hg2, by have := hg2.size; omega⟩
            clear hg2
            cases y2
            · dsimp only
              have e0 := LT.cell 0 rfl
              have e1 := LT.cell 1 rfl
              have e2 := LT.cell 2 rfl
              have hlt5 := LT.lt
              have HLT : Hid (Loc wc T5 [.int .i64 wd, .int .i64 hg9, .slice ao xs.length c]) := LT
              have HO9 : Hid (wc.ownsRow W2.heap.size 3 1 (.slice ao xs.length c) xs.length (xs.flatMap numC)) := HO
              have HZR : Hid (Loc wc w.heap.size [.int .i64 0, .int .i64 0, .slice none 0 0]) := ZR
              have HCC : Hid (CurOk wc b (K + 8 + 8 * (xs.length : Int) + 2 + 2 + 2)) := hC
              have HGG : Hid (But b (b + 1) w wc ∧ W2.heap.size ≤ wc.heap.size) := hg
              clear LT HO ZR hC hg
              repeat (first | (at_builtin; refine forgetL (fun w' => w' = _) rfl ?_) | go_values | go_skip | go_guarded | go_step | go_upon)
              intro W7 hW7
              have K7 : Kept wc W7 := by rw [hW7]; exact (But.refl _ _ _).alloc _
              have N7 : Loc W7 wc.heap.size [.int .i64 (zp)] := by rw [hW7]; exact Loc.new wc _ _
              have s7 := K7.size
              clear hW7
              refine wpList_append_own _ rfl _ _ 26 rfl W2.heap.size 3 i0 (.int .i64 0) 1 8 Try.underlying26 hi0 hz0 hz1 hz2 rfl (by decide) (.slice ao xs.length c) xs.length (xs.flatMap numC) rfl (own_kept HO9.out K7) ⟨wc.heap.size, 0, none⟩ 1 1 [.int .i64 (zp)] rfl rfl (news1 N7) (by simp [Value.oneCell']) (by unfold maxLen; omega) (by omega) (by have := HGG.out.2; omega) ?_
              intro v' w8 hown' hgrow _
              obtain ⟨ao5, cap5, hf5, _⟩ := own_form hown'
              subst hf5
              have L8 := (HLT.out.kept K7).grown hgrow (fun e => by have := own_lt HO9.out e; omega)
              have Z8 := (HZR.out.kept K7).grown hgrow (fun e => by have := own_lt HO9.out e; omega)
              have C8 : CurOk w8 b (K + 8 + 8 * (xs.length : Int) + 2 + 2 + 2) := by
                have h1 := HCC.out.kept K7
                exact h1.but ((But.refl W2.heap.size W7.heap.size W7).grown hgrow (fun k hk => .inr (own_lt (own_kept HO9.out K7) hk))) hbW
              have G8 : But b (b + 1) w w8 := ((HGG.out.1).transK K7).grown hgrow (fun k hk => .inl (by have := own_lt HO9.out hk; omega))
              have s8 := hgrow.size
              have x2 := L8.cell 2 rfl
              have x2f := L8.frozen 2
              have M8 := L8.set 2 (.slice ao5 (xs.length + 1) cap5)
              simp only [List.set_cons_zero, List.set_cons_succ] at M8
              have HR8 : Hid (Loc (w8.setCell ⟨T5, 2, none⟩ (.slice ao5 (xs.length + 1) cap5)) T5 [.int .i64 wd, .int .i64 hg9, .slice ao5 (xs.length + 1) cap5] ∧ Loc (w8.setCell ⟨T5, 2, none⟩ (.slice ao5 (xs.length + 1) cap5)) w.heap.size [.int .i64 0, .int .i64 0, .slice none 0 0] ∧ CurOk (w8.setCell ⟨T5, 2, none⟩ (.slice ao5 (xs.length + 1) cap5)) b (K + 8 + 8 * (xs.length : Int) + 2 + 2 + 2) ∧ But b (b + 1) w (w8.setCell ⟨T5, 2, none⟩ (.slice ao5 (xs.length + 1) cap5))) := ⟨M8, Z8.other (b' := T5) (j := 2) (by omega) _, C8.set (by omega) 2 _, G8.setNew (by simp; omega) _⟩
              have HW8 : Hid (World.ownsRow (w8.setCell ⟨T5, 2, none⟩ (.slice ao5 (xs.length + 1) cap5)) W2.heap.size 3 1 (.slice ao5 (xs.length + 1) cap5) (xs.length + 1) (xs.flatMap numC ++ [.int .i64 (zp)])) := own_but (lo := T5) (hi := T5 + 1) hown' ((But.refl _ _ _).setCell (by simp) (by simp) _) (fun g hg => by have := own_lt hown' hg; omega)
              have HS8 : Hid (W2.heap.size ≤ w8.heap.size) := by have := HGG.out.2; show _ ≤ _; omega
              clear hown' hgrow L8 Z8 C8 G8 M8 N7 HO9 HZR HCC HGG HLT K7
              dsimp only
              repeat (first | go_values | go_skip | go_guarded | go_step | go_upon)
              refine ⟨⟨k', xs ++ [(zp)], ao5, cap5, by omega, by rw [List.length_append]; simp only [List.length_cons, List.length_nil]; omega, by first | rfl | go_num, by rw [List.length_append]; exact HR8.out.1, ?_, HR8.out.2.1, by refine (HR8.out.2.2.1).le ?_; rw [List.length_append]; simp only [List.length_cons, List.length_nil]; omega, HR8.out.2.2.2, by simpa using HS8.out⟩, by simp [intOf]; omega⟩
              have h9 := HW8.out
              rw [List.flatMap_append, List.length_append]
              exact h9
            · dsimp only
              repeat (first | go_values | go_skip | go_guarded | go_step | go_upon)
              go_at_call 80
              refine (among_ok _ b _ (K + 8 + 8 * (xs.length : Int) + 2 + 2 + 2) [-2, s] (hC.alloc _) (by omega) (by have := hC.lt; omega) (Listed.of (Loc.new _ _ _)) (by simp) (by simp) 2 rfl).mono ?_
              rintro e wc2 ⟨z2, rfl, -, hC2, hg2⟩
              have j2 : But b (b + 1) wc wc2 := ((But.refl _ _ _).alloc _).trans hg2
              have LT := LT.cur j2 (by omega)
              have ZR := ZR.cur j2 (by omega)
              have HO := own_but HO j2 (fun g hg => by have := own_lt HO hg; omega)
              have hg : But b (b + 1) w wc2 ∧ W2.heap.size ≤ wc2.heap.size := ⟨hg.1.trans j2, by have := j2.size; omega⟩
              have hC := hC2
              clear hg2 hC2 j2
              dsimp only
              have e0 := LT.cell 0 rfl
              have e1 := LT.cell 1 rfl
              have e2 := LT.cell 2 rfl
              have hlt5 := LT.lt
              have HLT : Hid (Loc wc2 T5 [.int .i64 wd, .int .i64 hg9, .slice ao xs.length c]) := LT
              have HO9 : Hid (wc2.ownsRow W2.heap.size 3 1 (.slice ao xs.length c) xs.length (xs.flatMap numC)) := HO
              have HZR : Hid (Loc wc2 w.heap.size [.int .i64 0, .int .i64 0, .slice none 0 0]) := ZR
              have HCC : Hid (CurOk wc2 b (K + 8 + 8 * (xs.length : Int) + 2 + 2 + 2 + 2)) := hC
              have HGG : Hid (But b (b + 1) w wc2 ∧ W2.heap.size ≤ wc2.heap.size) := hg
              clear LT HO ZR hC hg
              repeat (first | (at_builtin; refine forgetL (fun w' => w' = _) rfl ?_) | go_values | go_skip | go_guarded | go_step | go_upon)
              intro W7 hW7
              have K7 : Kept wc2 W7 := by rw [hW7]; exact (But.refl _ _ _).alloc _
              have N7 : Loc W7 wc2.heap.size [.int .i64 (z2)] := by rw [hW7]; exact Loc.new wc2 _ _
              have s7 := K7.size
              clear hW7
              refine wpList_append_own _ rfl _ _ 26 rfl W2.heap.size 3 i0 (.int .i64 0) 1 8 Try.underlying26 hi0 hz0 hz1 hz2 rfl (by decide) (.slice ao xs.length c) xs.length (xs.flatMap numC) rfl (own_kept HO9.out K7) ⟨wc2.heap.size, 0, none⟩ 1 1 [.int .i64 (z2)] rfl rfl (news1 N7) (by simp [Value.oneCell']) (by unfold maxLen; omega) (by omega) (by have := HGG.out.2; omega) ?_
              intro v' w8 hown' hgrow _
              obtain ⟨ao5, cap5, hf5, _⟩ := own_form hown'
              subst hf5
              have L8 := (HLT.out.kept K7).grown hgrow (fun e => by have := own_lt HO9.out e; omega)
              have Z8 := (HZR.out.kept K7).grown hgrow (fun e => by have := own_lt HO9.out e; omega)
              have C8 : CurOk w8 b (K + 8 + 8 * (xs.length : Int) + 2 + 2 + 2 + 2) := by
                have h1 := HCC.out.kept K7
                exact h1.but ((But.refl W2.heap.size W7.heap.size W7).grown hgrow (fun k hk => .inr (own_lt (own_kept HO9.out K7) hk))) hbW
              have G8 : But b (b + 1) w w8 := ((HGG.out.1).transK K7).grown hgrow (fun k hk => .inl (by have := own_lt HO9.out hk; omega))
              have s8 := hgrow.size
              have x2 := L8.cell 2 rfl
              have x2f := L8.frozen 2
              have M8 := L8.set 2 (.slice ao5 (xs.length + 1) cap5)
              simp only [List.set_cons_zero, List.set_cons_succ] at M8
              have HR8 : Hid (Loc (w8.setCell ⟨T5, 2, none⟩ (.slice ao5 (xs.length + 1) cap5)) T5 [.int .i64 wd, .int .i64 hg9, .slice ao5 (xs.length + 1) cap5] ∧ Loc (w8.setCell ⟨T5, 2, none⟩ (.slice ao5 (xs.length + 1) cap5)) w.heap.size [.int .i64 0, .int .i64 0, .slice none 0 0] ∧ CurOk (w8.setCell ⟨T5, 2, none⟩ (.slice ao5 (xs.length + 1) cap5)) b (K + 8 + 8 * (xs.length : Int) + 2 + 2 + 2 + 2) ∧ But b (b + 1) w (w8.setCell ⟨T5, 2, none⟩ (.slice ao5 (xs.length + 1) cap5))) := ⟨M8, Z8.other (b' := T5) (j := 2) (by omega) _, C8.set (by omega) 2 _, G8.setNew (by simp; omega) _⟩
              have HW8 : Hid (World.ownsRow (w8.setCell ⟨T5, 2, none⟩ (.slice ao5 (xs.length + 1) cap5)) W2.heap.size 3 1 (.slice ao5 (xs.length + 1) cap5) (xs.length + 1) (xs.flatMap numC ++ [.int .i64 (z2)])) := own_but (lo := T5) (hi := T5 + 1) hown' ((But.refl _ _ _).setCell (by simp) (by simp) _) (fun g hg => by have := own_lt hown' hg; omega)
              have HS8 : Hid (W2.heap.size ≤ w8.heap.size) := by have := HGG.out.2; show _ ≤ _; omega
              clear hown' hgrow L8 Z8 C8 G8 M8 N7 HO9 HZR HCC HGG HLT K7
              dsimp only
              repeat (first | go_values | go_skip | go_guarded | go_step | go_upon)
              refine ⟨⟨k', xs ++ [(z2)], ao5, cap5, by omega, by rw [List.length_append]; simp only [List.length_cons, List.length_nil]; omega, by first | rfl | go_num, by rw [List.length_append]; exact HR8.out.1, ?_, HR8.out.2.1, by refine (HR8.out.2.2.1).le ?_; rw [List.length_append]; simp only [List.length_cons, List.length_nil]; omega, HR8.out.2.2.2, by simpa using HS8.out⟩, by simp [intOf]; omega⟩
              have h9 := HW8.out
              rw [List.flatMap_append, List.length_append]
              exact h9
          · have ds : decide (0 < s) = false := decide_eq_false hs0
            repeat (first | go_values | go_skip | go_guarded | go_step | go_upon)
            go_at_call 71
            refine (one_ok _ b (K + 8 + 8 * (xs.length : Int) + 2) 400 hC (by omega) (by omega)).mono ?_
            rintro e wc ⟨y2, rfl, hC, hg2⟩
            have LT := LT.cur hg2 (by omega)
            have ZR := ZR.cur hg2 (by omega)
            have HO := own_but HO hg2 (fun g hg => by have := own_lt HO hg; omega)
            have hg : But b (b + 1) w wc ∧ W2.heap.size ≤ wc.heap.size := ⟨hg.1.trans hg2, by have := hg2.size; omega⟩
            clear hg2
            cases y2
            · dsimp only
              have e0 := LT.cell 0 rfl
              have e1 := LT.cell 1 rfl
              have e2 := LT.cell 2 rfl
              have hlt5 := LT.lt
              have HLT : Hid (Loc wc T5 [.int .i64 wd, .int .i64 hg9, .slice ao xs.length c]) := LT
              have HO9 : Hid (wc.ownsRow W2.heap.size 3 1 (.slice ao xs.length c) xs.length (xs.flatMap numC)) := HO
              have HZR : Hid (Loc wc w.heap.size [.int .i64 0, .int .i64 0, .slice none 0 0]) := ZR
              have HCC : Hid (CurOk wc b (K + 8 + 8 * (xs.length : Int) + 2 + 2)) := hC
              have HGG : Hid (But b (b + 1) w wc ∧ W2.heap.size ≤ wc.heap.size) := hg
              clear LT HO ZR hC hg
              repeat (first | (at_builtin; refine forgetL (fun w' => w' = _) rfl ?_) | go_values | go_skip | go_guarded | go_step | go_upon)
              intro W7 hW7
              have K7 : Kept wc W7 := by rw [hW7]; exact (But.refl _ _ _).alloc _
              have N7 : Loc W7 wc.heap.size [.int .i64 (-1)] := by rw [hW7]; exact Loc.new wc _ _
              have s7 := K7.size
              clear hW7
              refine wpList_append_own _ rfl _ _ 26 rfl W2.heap.size 3 i0 (.int .i64 0) 1 8 Try.underlying26 hi0 hz0 hz1 hz2 rfl (by decide) (.slice ao xs.length c) xs.length (xs.flatMap numC) rfl (own_kept HO9.out K7) ⟨wc.heap.size, 0, none⟩ 1 1 [.int .i64 (-1)] rfl rfl (news1 N7) (by simp [Value.oneCell']) (by unfold maxLen; omega) (by omega) (by have := HGG.out.2; omega) ?_
              intro v' w8 hown' hgrow _
              obtain ⟨ao5, cap5, hf5, _⟩ := own_form hown'
              subst hf5
              have L8 := (HLT.out.kept K7).grown hgrow (fun e => by have := own_lt HO9.out e; omega)
              have Z8 := (HZR.out.kept K7).grown hgrow (fun e => by have := own_lt HO9.out e; omega)
              have C8 : CurOk w8 b (K + 8 + 8 * (xs.length : Int) + 2 + 2) := by
                have h1 := HCC.out.kept K7
                exact h1.but ((But.refl W2.heap.size W7.heap.size W7).grown hgrow (fun k hk => .inr (own_lt (own_kept HO9.out K7) hk))) hbW
              have G8 : But b (b + 1) w w8 := ((HGG.out.1).transK K7).grown hgrow (fun k hk => .inl (by have := own_lt HO9.out hk; omega))
              have s8 := hgrow.size
              have x2 := L8.cell 2 rfl
              have x2f := L8.frozen 2
              have M8 := L8.set 2 (.slice ao5 (xs.length + 1) cap5)
              simp only [List.set_cons_zero, List.set_cons_succ] at M8
              have HR8 : Hid (Loc (w8.setCell ⟨T5, 2, none⟩ (.slice ao5 (xs.length + 1) cap5)) T5 [.int .i64 wd, .int .i64 hg9, .slice ao5 (xs.length + 1) cap5] ∧ Loc (w8.setCell ⟨T5, 2, none⟩ (.slice ao5 (xs.length + 1) cap5)) w.heap.size [.int .i64 0, .int .i64 0, .slice none 0 0] ∧ CurOk (w8.setCell ⟨T5, 2, none⟩ (.slice ao5 (xs.length + 1) cap5)) b (K + 8 + 8 * (xs.length : Int) + 2 + 2) ∧ But b (b + 1) w (w8.setCell ⟨T5, 2, none⟩ (.slice ao5 (xs.length + 1) cap5))) := ⟨M8, Z8.other (b' := T5) (j := 2) (by omega) _, C8.set (by omega) 2 _, G8.setNew (by simp; omega) _⟩
              have HW8 : Hid (World.ownsRow (w8.setCell ⟨T5, 2, none⟩ (.slice ao5 (xs.length + 1) cap5)) W2.heap.size 3 1 (.slice ao5 (xs.length + 1) cap5) (xs.length + 1) (xs.flatMap numC ++ [.int .i64 (-1)])) := own_but (lo := T5) (hi := T5 + 1) hown' ((But.refl _ _ _).setCell (by simp) (by simp) _) (fun g hg => by have := own_lt hown' hg; omega)
              have HS8 : Hid (W2.heap.size ≤ w8.heap.size) := by have := HGG.out.2; show _ ≤ _; omega
              clear hown' hgrow L8 Z8 C8 G8 M8 N7 HO9 HZR HCC HGG HLT K7
              dsimp only
              repeat (first | go_values | go_skip | go_guarded | go_step | go_upon)
              refine ⟨⟨k', xs ++ [(-1)], ao5, cap5, by omega, by rw [List.length_append]; simp only [List.length_cons, List.length_nil]; omega, by first | rfl | go_num, by rw [List.length_append]; exact HR8.out.1, ?_, HR8.out.2.1, by refine (HR8.out.2.2.1).le ?_; rw [List.length_append]; simp only [List.length_cons, List.length_nil]; omega, HR8.out.2.2.2, by simpa using HS8.out⟩, by simp [intOf]; omega⟩
              have h9 := HW8.out
              rw [List.flatMap_append, List.length_append]
              exact h9
            · dsimp only
              repeat (first | go_values | go_skip | go_guarded | go_step | go_upon)
              go_at_call 80
              refine (among_ok _ b _ (K + 8 + 8 * (xs.length : Int) + 2 + 2) [-2, s] (hC.alloc _) (by omega) (by have := hC.lt; omega) (Listed.of (Loc.new _ _ _)) (by simp) (by simp) 2 rfl).mono ?_
              rintro e wc2 ⟨z2, rfl, -, hC2, hg2⟩
              have j2 : But b (b + 1) wc wc2 := ((But.refl _ _ _).alloc _).trans hg2
              have LT := LT.cur j2 (by omega)
              have ZR := ZR.cur j2 (by omega)
              have HO := own_but HO j2 (fun g hg => by have := own_lt HO hg; omega)
              have hg : But b (b + 1) w wc2 ∧ W2.heap.size ≤ wc2.heap.size := ⟨hg.1.trans j2, by have := j2.size; omega⟩
              have hC := hC2
              clear hg2 hC2 j2
              dsimp only
              have e0 := LT.cell 0 rfl
              have e1 := LT.cell 1 rfl
              have e2 := LT.cell 2 rfl
              have hlt5 := LT.lt
              have HLT : Hid (Loc wc2 T5 [.int .i64 wd, .int .i64 hg9, .slice ao xs.length c]) := LT
              have HO9 : Hid (wc2.ownsRow W2.heap.size 3 1 (.slice ao xs.length c) xs.length (xs.flatMap numC)) := HO
              have HZR : Hid (Loc wc2 w.heap.size [.int .i64 0, .int .i64 0, .slice none 0 0]) := ZR
              have HCC : Hid (CurOk wc2 b (K + 8 + 8 * (xs.length : Int) + 2 + 2 + 2)) := hC
              have HGG : Hid (But b (b + 1) w wc2 ∧ W2.heap.size ≤ wc2.heap.size) := hg
              clear LT HO ZR hC hg
              repeat (first | (at_builtin; refine forgetL (fun w' => w' = _) rfl ?_) | go_values | go_skip | go_guarded | go_step | go_upon)
              intro W7 hW7
              have K7 : Kept wc2 W7 := by rw [hW7]; exact (But.refl _ _ _).alloc _
              have N7 : Loc W7 wc2.heap.size [.int .i64 (z2)] := by rw [hW7]; exact Loc.new wc2 _ _
              have s7 := K7.size
              clear hW7
              refine wpList_append_own _ rfl _ _ 26 rfl W2.heap.size 3 i0 (.int .i64 0) 1 8 Try.underlying26 hi0 hz0 hz1 hz2 rfl (by decide) (.slice ao xs.length c) xs.length (xs.flatMap numC) rfl (own_kept HO9.out K7) ⟨wc2.heap.size, 0, none⟩ 1 1 [.int .i64 (z2)] rfl rfl (news1 N7) (by simp [Value.oneCell']) (by unfold maxLen; omega) (by omega) (by have := HGG.out.2; omega) ?_
              intro v' w8 hown' hgrow _
              obtain ⟨ao5, cap5, hf5, _⟩ := own_form hown'
              subst hf5
              have L8 := (HLT.out.kept K7).grown hgrow (fun e => by have := own_lt HO9.out e; omega)
              have Z8 := (HZR.out.kept K7).grown hgrow (fun e => by have := own_lt HO9.out e; omega)
              have C8 : CurOk w8 b (K + 8 + 8 * (xs.length : Int) + 2 + 2 + 2) := by
                have h1 := HCC.out.kept K7
                exact h1.but ((But.refl W2.heap.size W7.heap.size W7).grown hgrow (fun k hk => .inr (own_lt (own_kept HO9.out K7) hk))) hbW
              have G8 : But b (b + 1) w w8 := ((HGG.out.1).transK K7).grown hgrow (fun k hk => .inl (by have := own_lt HO9.out hk; omega))
              have s8 := hgrow.size
              have x2 := L8.cell 2 rfl
              have x2f := L8.frozen 2
              have M8 := L8.set 2 (.slice ao5 (xs.length + 1) cap5)
              simp only [List.set_cons_zero, List.set_cons_succ] at M8
              have HR8 : Hid (Loc (w8.setCell ⟨T5, 2, none⟩ (.slice ao5 (xs.length + 1) cap5)) T5 [.int .i64 wd, .int .i64 hg9, .slice ao5 (xs.length + 1) cap5] ∧ Loc (w8.setCell ⟨T5, 2, none⟩ (.slice ao5 (xs.length + 1) cap5)) w.heap.size [.int .i64 0, .int .i64 0, .slice none 0 0] ∧ CurOk (w8.setCell ⟨T5, 2, none⟩ (.slice ao5 (xs.length + 1) cap5)) b (K + 8 + 8 * (xs.length : Int) + 2 + 2 + 2) ∧ But b (b + 1) w (w8.setCell ⟨T5, 2, none⟩ (.slice ao5 (xs.length + 1) cap5))) := ⟨M8, Z8.other (b' := T5) (j := 2) (by omega) _, C8.set (by omega) 2 _, G8.setNew (by simp; omega) _⟩
              have HW8 : Hid (World.ownsRow (w8.setCell ⟨T5, 2, none⟩ (.slice ao5 (xs.length + 1) cap5)) W2.heap.size 3 1 (.slice ao5 (xs.length + 1) cap5) (xs.length + 1) (xs.flatMap numC ++ [.int .i64 (z2)])) := own_but (lo := T5) (hi := T5 + 1) hown' ((But.refl _ _ _).setCell (by simp) (by simp) _) (fun g hg => by have := own_lt hown' hg; omega)
              have HS8 : Hid (W2.heap.size ≤ w8.heap.size) := by have := HGG.out.2; show _ ≤ _; omega
              clear hown' hgrow L8 Z8 C8 G8 M8 N7 HO9 HZR HCC HGG HLT K7
              dsimp only
              repeat (first | go_values | go_skip | go_guarded | go_step | go_upon)
              refine ⟨⟨k', xs ++ [(z2)], ao5, cap5, by omega, by rw [List.length_append]; simp only [List.length_cons, List.length_nil]; omega, by first | rfl | go_num, by rw [List.length_append]; exact HR8.out.1, ?_, HR8.out.2.1, by refine (HR8.out.2.2.1).le ?_; rw [List.length_append]; simp only [List.length_cons, List.length_nil]; omega, HR8.out.2.2.2, by simpa using HS8.out⟩, by simp [intOf]; omega⟩
              have h9 := HW8.out
              rw [List.flatMap_append, List.length_append]
              exact h9
      · have hke : k = 0 := by omega
        subst hke
        have t0 := LT.cell 0 rfl
        have t1 := LT.cell 1 rfl
        have t2 := LT.cell 2 rfl
        have u0 := ZR.cell 0 rfl
        have uf0 := ZR.frozen 0
        have U1 := ZR.set 0 (.int .i64 wd)
        simp only [List.set_cons_zero] at U1
        have u1 := U1.cell 1 rfl
        have uf1 := U1.frozen 1
        have U2 := U1.set 1 (.int .i64 hg9)
        simp only [List.set_cons_zero, List.set_cons_succ] at U2
        have u2 := U2.cell 2 rfl
        have uf2 := U2.frozen 2
        have U3 := U2.set 2 (.slice ao xs.length c)
        simp only [List.set_cons_zero, List.set_cons_succ] at U3
        have v0 := U3.cell 0 rfl
        have v1 := U3.cell 1 rfl
        have v2 := U3.cell 2 rfl
        have B9 : But w.heap.size (w.heap.size + 1) wr (((wr.setCell ⟨w.heap.size, 0, none⟩ (.int .i64 wd)).setCell ⟨w.heap.size, 1, none⟩ (.int .i64 hg9)).setCell ⟨w.heap.size, 2, none⟩ (.slice ao xs.length c)) := (((But.refl _ _ _).setCell (by simp) (by simp) _).setCell (by simp) (by simp) _).setCell (by simp) (by simp) _
        have h9 := own_but HO B9 (fun g hg => by have := own_lt HO hg; omega)
        have HF : Hid (World.ownsRow (((wr.setCell ⟨w.heap.size, 0, none⟩ (.int .i64 wd)).setCell ⟨w.heap.size, 1, none⟩ (.int .i64 hg9)).setCell ⟨w.heap.size, 2, none⟩ (.slice ao xs.length c)) W2.heap.size 3 1 (.slice ao xs.length c) xs.length (xs.flatMap numC) ∧ CurOk (((wr.setCell ⟨w.heap.size, 0, none⟩ (.int .i64 wd)).setCell ⟨w.heap.size, 1, none⟩ (.int .i64 hg9)).setCell ⟨w.heap.size, 2, none⟩ (.slice ao xs.length c)) b (K + 8 + 8 * (xs.length : Int)) ∧ But b (b + 1) w (((wr.setCell ⟨w.heap.size, 0, none⟩ (.int .i64 wd)).setCell ⟨w.heap.size, 1, none⟩ (.int .i64 hg9)).setCell ⟨w.heap.size, 2, none⟩ (.slice ao xs.length c))) := ⟨h9, ((hC.set hbT.2.1 0 _).set hbT.2.1 1 _).set hbT.2.1 2 _, ((hg.1.setNew (by simp) _).setNew (by simp) _).setNew (by simp) _⟩
        clear U1 U2 U3 LT ZR HO hC hg B9 h9
        repeat (first | go_values | go_skip | go_guarded | go_step | go_upon)
        refine bodyPost_ret (v := .agg #[.int .i64 wd, .int .i64 hg9, .slice ao xs.length c]) (by simp [results, Try.results69, go_sem, *]) rfl ?_
        exact ⟨(wd, hg9, xs), _, rfl, ⟨_, rfl, RowO.mono (RowO.top HF.out.1) (by omega) (Nat.le_refl _)⟩, by show xs.length ≤ 100; omega, HF.out.2.1.le (by omega), HF.out.2.2⟩
  · dsimp only
    repeat (first | go_values | go_skip | go_guarded | go_step | go_upon)
    go_at_call 80
    refine (among_ok _ b _ (K + 2 + 2 + 2) [0, 6, 7] (hC3.alloc _) (by omega) (by have := hC3.lt; omega) (Listed.of (Loc.new _ _ _)) (by simp) (by simp) 3 rfl).mono ?_
    rintro e w4 ⟨wd, rfl, hz4, hC4, hg4⟩
    have j4 : But b (b + 1) w3 w4 := ((But.refl _ _ _).alloc _).trans hg4
    have T4 := T3.cur j4 (by omega)
    have ZR4 := ZR3.cur j4 (by omega)
    have G4 := G3.trans j4
    have hwb : 0 ≤ wd ∧ wd ≤ 7 := by simp at hz4; omega
    obtain ⟨hg9, hhg⟩ : ∃ x, x = 1 + z2 := ⟨_, rfl⟩
    rw [← hhg] at T4 ⊢
    have hhb : 1 ≤ hg9 ∧ hg9 ≤ 4 := by omega
    clear hhg
    have x0 := T4.cell 0 rfl
    have x1 := T4.cell 1 rfl
    have x0f := T4.frozen 0
    have T4' := T4.set 0 (.int .i64 wd)
    simp only [List.set_cons_zero] at T4'
    have HA : Hid (Loc (w4.setCell ⟨T5, 0, none⟩ (.int .i64 wd)) T5 [.int .i64 wd, .int .i64 hg9, .slice none 0 0] ∧ Loc (w4.setCell ⟨T5, 0, none⟩ (.int .i64 wd)) w.heap.size [.int .i64 0, .int .i64 0, .slice none 0 0] ∧ CurOk (w4.setCell ⟨T5, 0, none⟩ (.int .i64 wd)) b (K + 8) ∧ But b (b + 1) w (w4.setCell ⟨T5, 0, none⟩ (.int .i64 wd))) := ⟨T4', ZR4.other (b' := T5) (j := 0) (by omega) _, (hC4.set (by omega) 0 _).le (by omega), G4.setNew (by simp; omega) _⟩
    clear T3 T4 T4' ZR3 ZR4 G3 G4 hC3 hC4 hg4 j4 hz4
    have hpr := Int.mul_nonneg hwb.1 (show 0 ≤ hg9 by omega)
    have hpl : wd * hg9 ≤ 7 * 4 := Int.mul_le_mul hwb.2 hhb.2 (by omega) (by omega)
    obtain ⟨tot, htot⟩ : ∃ t : Nat, wd * hg9 = (t : Int) := ⟨(wd * hg9).toNat, by omega⟩
    have ht28 : tot ≤ 28 := by omega
    have ewr : IntKind.i64.wrap (tot : Int) = (tot : Int) := IntWalk.i64_in _ (by omega)
    clear hpr hpl
    try dsimp only
    repeat (first | go_values | go_skip | go_guarded | go_step | go_upon)
    clear ewr
    clear x0 x1 x0f
    generalize w4.setCell ⟨T5, 0, none⟩ (.int .i64 wd) = W2 at *
    obtain ⟨T3, ZR3, hC3, G3⟩ := HA.out
    clear HA hz1' hz2'
    have hbT : b ≠ T5 ∧ b < w.heap.size ∧ w.heap.size < T5 := ⟨by omega, hbw, by omega⟩
    have hTW := T3.lt
    have hbW : b < W2.heap.size := by omega
    go_loopw [6] (fun n wr => ∃ (k : Nat) (xs : List Int) (ao : Option Addr) (c : Nat), k ≤ 28 ∧ k + xs.length = tot ∧ n = .int .i64 k ∧ Loc wr T5 [.int .i64 wd, .int .i64 hg9, .slice ao xs.length c] ∧ wr.ownsRow W2.heap.size 3 1 (.slice ao xs.length c) xs.length (xs.flatMap numC) ∧ Loc wr w.heap.size [.int .i64 0, .int .i64 0, .slice none 0 0] ∧ CurOk wr b (K + 8 + 8 * (xs.length : Int)) ∧ But b (b + 1) w wr ∧ W2.heap.size ≤ wr.heap.size) (fun n _ => (intOf n).toNat)
    case atStart => exact ⟨tot, [], none, 0, ht28, rfl, rfl, T3, World.ownsRow_nil _ _ _ _, ZR3, by simpa using hC3, G3, Nat.le_refl _⟩
    case round =>
      obtain ⟨k, xs, ao, c, hk28, hkx, rfl, LT, HO, ZR, hC, hg1, hg2⟩ := hrel
      have hg : But b (b + 1) w wr ∧ W2.heap.size ≤ wr.heap.size := ⟨hg1, hg2⟩
      clear hg1 hg2
      by_cases hk0 : 0 < k
      · obtain ⟨k', hk'⟩ : ∃ k', k = k' + 1 := ⟨k - 1, by omega⟩
        have dk : decide (0 < (k : Int)) = true := by simp; omega
        have dk2 : decide (0 < k) = true := decide_eq_true hk0
        have hk1 : IntKind.i64.wrap ((k : Int) - 1) = (k' : Int) := by rw [IntWalk.i64_in _ (by omega)]; omega
        have hk2 : (k : Int) - 1 = (k' : Int) := by omega
        repeat (first | go_values | go_skip | go_guarded | go_step | go_upon)
        go_at_call 71
        refine (one_ok _ b (K + 8 + 8 * (xs.length : Int)) 4 hC (by omega) (by omega)).mono ?_
        rintro e wa ⟨y1, rfl, hC, hga⟩
        have LT := LT.cur hga (by omega)
        have ZR := ZR.cur hga (by omega)
        have HO := own_but HO hga (fun g hg => by have := own_lt HO hg; omega)
        have hg : But b (b + 1) w wa ∧ W2.heap.size ≤ wa.heap.size := ⟨hg.1.trans hga, by have := (hga).size; omega⟩
        clear hga
        cases y1
        · dsimp only
          repeat (first | go_values | go_skip | go_guarded | go_step | go_upon)
          go_at_call 71
          refine (one_ok _ b (K + 8 + 8 * (xs.length : Int) + 2) 400 hC (by omega) (by omega)).mono ?_
          rintro e wc ⟨y2, rfl, hC, hg2⟩
          have LT := LT.cur hg2 (by omega)
          have ZR := ZR.cur hg2 (by omega)
          have HO := own_but HO hg2 (fun g hg => by have := own_lt HO hg; omega)
          have hg : But b (b + 1) w wc ∧ W2.heap.size ≤ wc.heap.size := ⟨hg.1.trans hg2, by have := hg2.size; omega⟩
          clear hg2
          cases y2
          · dsimp only
            have e0 := LT.cell 0 rfl
            have e1 := LT.cell 1 rfl
            have e2 := LT.cell 2 rfl
            have hlt5 := LT.lt
            have HLT : Hid (Loc wc T5 [.int .i64 wd, .int .i64 hg9, .slice ao xs.length c]) := LT
            have HO9 : Hid (wc.ownsRow W2.heap.size 3 1 (.slice ao xs.length c) xs.length (xs.flatMap numC)) := HO
            have HZR : Hid (Loc wc w.heap.size [.int .i64 0, .int .i64 0, .slice none 0 0]) := ZR
            have HCC : Hid (CurOk wc b (K + 8 + 8 * (xs.length : Int) + 2 + 2)) := hC
            have HGG : Hid (But b (b + 1) w wc ∧ W2.heap.size ≤ wc.heap.size) := hg
            clear LT HO ZR hC hg
            repeat (first | (at_builtin; refine forgetL (fun w' => w' = _) rfl ?_) | go_values | go_skip | go_guarded | go_step | go_upon)
            intro W7 hW7
            have K7 : Kept wc W7 := by rw [hW7]; exact (But.refl _ _ _).alloc _
            have N7 : Loc W7 wc.heap.size [.int .i64 (-1)] := by rw [hW7]; exact Loc.new wc _ _
            have s7 := K7.size
            clear hW7
            refine wpList_append_own _ rfl _ _ 26 rfl W2.heap.size 3 i0 (.int .i64 0) 1 8 Try.underlying26 hi0 hz0 hz1 hz2 rfl (by decide) (.slice ao xs.length c) xs.length (xs.flatMap numC) rfl (own_kept HO9.out K7) ⟨wc.heap.size, 0, none⟩ 1 1 [.int .i64 (-1)] rfl rfl (news1 N7) (by simp [Value.oneCell']) (by unfold maxLen; omega) (by omega) (by have := HGG.out.2; omega) ?_
            intro v' w8 hown' hgrow _
            obtain ⟨ao5, cap5, hf5, _⟩ := own_form hown'
            subst hf5
            have L8 := (HLT.out.kept K7).grown hgrow (fun e => by have := own_lt HO9.out e; omega)
            have Z8 := (HZR.out.kept K7).grown hgrow (fun e => by have := own_lt HO9.out e; omega)
            have C8 : CurOk w8 b (K + 8 + 8 * (xs.length : Int) + 2 + 2) := by
              have h1 := HCC.out.kept K7
              exact h1.but ((But.refl W2.heap.size W7.heap.size W7).grown hgrow (fun k hk => .inr (own_lt (own_kept HO9.out K7) hk))) hbW
            have G8 : But b (b + 1) w w8 := ((HGG.out.1).transK K7).grown hgrow (fun k hk => .inl (by have := own_lt HO9.out hk; omega))
            have s8 := hgrow.size
            have x2 := L8.cell 2 rfl
            have x2f := L8.frozen 2
            have M8 := L8.set 2 (.slice ao5 (xs.length + 1) cap5)
            simp only [List.set_cons_zero, List.set_cons_succ] at M8
            have HR8 : Hid (Loc (w8.setCell ⟨T5, 2, none⟩ (.slice ao5 (xs.length + 1) cap5)) T5 [.int .i64 wd, .int .i64 hg9, .slice ao5 (xs.length + 1) cap5] ∧ Loc (w8.setCell ⟨T5, 2, none⟩ (.slice ao5 (xs.length + 1) cap5)) w.heap.size [.int .i64 0, .int .i64 0, .slice none 0 0] ∧ CurOk (w8.setCell ⟨T5, 2, none⟩ (.slice ao5 (xs.length + 1) cap5)) b (K + 8 + 8 * (xs.length : Int) + 2 + 2) ∧ But b (b + 1) w (w8.setCell ⟨T5, 2, none⟩ (.slice ao5 (xs.length + 1) cap5))) := ⟨M8, Z8.other (b' := T5) (j := 2) (by omega) _, C8.set (by omega) 2 _, G8.setNew (by simp; omega) _⟩
            have HW8 : Hid (World.ownsRow (w8.setCell ⟨T5, 2, none⟩ (.slice ao5 (xs.length + 1) cap5)) W2.heap.size 3 1 (.slice ao5 (xs.length + 1) cap5) (xs.length + 1) (xs.flatMap numC ++ [.int .i64 (-1)])) := own_but (lo := T5) (hi := T5 + 1) hown' ((But.refl _ _ _).setCell (by simp) (by simp) _) (fun g hg => by have := own_lt hown' hg; omega)
            have HS8 : Hid (W2.heap.size ≤ w8.heap.size) := by have := HGG.out.2; show _ ≤ _; omega
            clear hown' hgrow L8 Z8 C8 G8 M8 N7 HO9 HZR HCC HGG HLT K7
            dsimp only
            repeat (first | go_values | go_skip | go_guarded | go_step | go_upon)
            refine ⟨⟨k', xs ++ [(-1)], ao5, cap5, by omega, by rw [List.length_append]; simp only [List.length_cons, List.length_nil]; omega, by first | rfl | go_num, by rw [List.length_append]; exact HR8.out.1, ?_, HR8.out.2.1, by refine (HR8.out.2.2.1).le ?_; rw [List.length_append]; simp only [List.length_cons, List.length_nil]; omega, HR8.out.2.2.2, by simpa using HS8.out⟩, by simp [intOf]; omega⟩
            have h9 := HW8.out
            rw [List.flatMap_append, List.length_append]
            exact h9
          · dsimp only
            repeat (first | go_values | go_skip | go_guarded | go_step | go_upon)
            go_at_call 80
            refine (among_ok _ b _ (K + 8 + 8 * (xs.length : Int) + 2 + 2) [-2, s] (hC.alloc _) (by omega) (by have := hC.lt; omega) (Listed.of (Loc.new _ _ _)) (by simp) (by simp) 2 rfl).mono ?_
            rintro e wc2 ⟨z2, rfl, -, hC2, hg2⟩
            have j2 : But b (b + 1) wc wc2 := ((But.refl _ _ _).alloc _).trans hg2
            have LT := LT.cur j2 (by omega)
            have ZR := ZR.cur j2 (by omega)
            have HO := own_but HO j2 (fun g hg => by have := own_lt HO hg; omega)
            have hg : But b (b + 1) w wc2 ∧ W2.heap.size ≤ wc2.heap.size := ⟨hg.1.trans j2, by have := j2.size; omega⟩
            have hC := hC2
            clear hg2 hC2 j2
            dsimp only
            have e0 := LT.cell 0 rfl
            have e1 := LT.cell 1 rfl
            have e2 := LT.cell 2 rfl
            have hlt5 := LT.lt
            have HLT : Hid (Loc wc2 T5 [.int .i64 wd, .int .i64 hg9, .slice ao xs.length c]) := LT
            have HO9 : Hid (wc2.ownsRow W2.heap.size 3 1 (.slice ao xs.length c) xs.length (xs.flatMap numC)) := HO
            have HZR : Hid (Loc wc2 w.heap.size [.int .i64 0, .int .i64 0, .slice none 0 0]) := ZR
            have HCC : Hid (CurOk wc2 b (K + 8 + 8 * (xs.length : Int) + 2 + 2 + 2)) := hC
            have HGG : Hid (But b (b + 1) w wc2 ∧ W2.heap.size ≤ wc2.heap.size) := hg
            clear LT HO ZR hC hg
            repeat (first | (at_builtin; refine forgetL (fun w' => w' = _) rfl ?_) | go_values | go_skip | go_guarded | go_step | go_upon)
            intro W7 hW7
            have K7 : Kept wc2 W7 := by rw [hW7]; exact (But.refl _ _ _).alloc _
            have N7 : Loc W7 wc2.heap.size [.int .i64 (z2)] := by rw [hW7]; exact Loc.new wc2 _ _
            have s7 := K7.size
            clear hW7
            refine wpList_append_own _ rfl _ _ 26 rfl W2.heap.size 3 i0 (.int .i64 0) 1 8 Try.underlying26 hi0 hz0 hz1 hz2 rfl (by decide) (.slice ao xs.length c) xs.length (xs.flatMap numC) rfl (own_kept HO9.out K7) ⟨wc2.heap.size, 0, none⟩ 1 1 [.int .i64 (z2)] rfl rfl (news1 N7) (by simp [Value.oneCell']) (by unfold maxLen; omega) (by omega) (by have := HGG.out.2; omega) ?_
            intro v' w8 hown' hgrow _
            obtain ⟨ao5, cap5, hf5, _⟩ := own_form hown'
            subst hf5
            have L8 := (HLT.out.kept K7).grown hgrow (fun e => by have := own_lt HO9.out e; omega)
            have Z8 := (HZR.out.kept K7).grown hgrow (fun e => by have := own_lt HO9.out e; omega)
            have C8 : CurOk w8 b (K + 8 + 8 * (xs.length : Int) + 2 + 2 + 2) := by
              have h1 := HCC.out.kept K7
              exact h1.but ((But.refl W2.heap.size W7.heap.size W7).grown hgrow (fun k hk => .inr (own_lt (own_kept HO9.out K7) hk))) hbW
            have G8 : But b (b + 1) w w8 := ((HGG.out.1).transK K7).grown hgrow (fun k hk => .inl (by have := own_lt HO9.out hk; omega))
            have s8 := hgrow.size
            have x2 := L8.cell 2 rfl
            have x2f := L8.frozen 2
            have M8 := L8.set 2 (.slice ao5 (xs.length + 1) cap5)
            simp only [List.set_cons_zero, List.set_cons_succ] at M8
            have HR8 : Hid (Loc (w8.setCell ⟨T5, 2, none⟩ (.slice ao5 (xs.length + 1) cap5)) T5 [.int .i64 wd, .int .i64 hg9, .slice ao5 (xs.length + 1) cap5] ∧ Loc (w8.setCell ⟨T5, 2, none⟩ (.slice ao5 (xs.length + 1) cap5)) w.heap.size [.int .i64 0, .int .i64 0, .slice none 0 0] ∧ CurOk (w8.setCell ⟨T5, 2, none⟩ (.slice ao5 (xs.length + 1) cap5)) b (K + 8 + 8 * (xs.length : Int) + 2 + 2 + 2) ∧ But b (b + 1) w (w8.setCell ⟨T5, 2, none⟩ (.slice ao5 (xs.length + 1) cap5))) := ⟨M8, Z8.other (b' := T5) (j := 2) (by omega) _, C8.set (by omega) 2 _, G8.setNew (by simp; omega) _⟩
            have HW8 : Hid (World.ownsRow (w8.setCell ⟨T5, 2, none⟩ (.slice ao5 (xs.length + 1) cap5)) W2.heap.size 3 1 (.slice ao5 (xs.length + 1) cap5) (xs.length + 1) (xs.flatMap numC ++ [.int .i64 (z2)])) := own_but (lo := T5) (hi := T5 + 1) hown' ((But.refl _ _ _).setCell (by simp) (by simp) _) (fun g hg => by have := own_lt hown' hg; omega)
            have HS8 : Hid (W2.heap.size ≤ w8.heap.size) := by have := HGG.out.2; show _ ≤ _; omega
            clear hown' hgrow L8 Z8 C8 G8 M8 N7 HO9 HZR HCC HGG HLT K7
            dsimp only
            repeat (first | go_values | go_skip | go_guarded | go_step | go_upon)
            refine ⟨⟨k', xs ++ [(z2)], ao5, cap5, by omega, by rw [List.length_append]; simp only [List.length_cons, List.length_nil]; omega, by first | rfl | go_num, by rw [List.length_append]; exact HR8.out.1, ?_, HR8.out.2.1, by refine (HR8.out.2.2.1).le ?_; rw [List.length_append]; simp only [List.length_cons, List.length_nil]; omega, HR8.out.2.2.2, by simpa using HS8.out⟩, by simp [intOf]; omega⟩
            have h9 := HW8.out
            rw [List.flatMap_append, List.length_append]
            exact h9
        · dsimp only
          by_cases hs0 : 0 < s
          · have ds : decide (0 < s) = true := decide_eq_true hs0
            repeat (first | go_values | go_skip | go_guarded | go_step | go_upon)
            go_at_call 79
            refine (pick_any _ b (K + 8 + 8 * (xs.length : Int) + 2) s hC (by omega) hs0).mono ?_
            rintro e wb ⟨zp, rfl, -, hC, hgb⟩
            have LT := LT.cur hgb (by omega)
            have ZR := ZR.cur hgb (by omega)
            have HO := own_but HO hgb (fun g hg => by have := own_lt HO hg; omega)
            have hg : But b (b + 1) w wb ∧ W2.heap.size ≤ wb.heap.size := ⟨hg.1.trans hgb, by have := (hgb).size; omega⟩
            clear hgb
            dsimp only
            repeat (first | go_values | go_skip | go_guarded | go_step | go_upon)
            go_at_call 71
            refine (one_ok _ b (K + 8 + 8 * (xs.length : Int) + 2 + 2) 400 hC (by omega) (by omega)).mono ?_
            rintro e wc ⟨y2, rfl, hC, hg2⟩
            have LT := LT.cur hg2 (by omega)
            have ZR := ZR.cur hg2 (by omega)
            have HO := own_but HO hg2 (fun g hg => by have := own_lt HO hg; omega)
            have hg : But b (b + 1) w wc ∧ W2.heap.size ≤ wc.heap.size := ⟨hg.1.trans hg2, by have := hg2.size; omega⟩
            clear hg2
            cases y2
            · dsimp only
              have e0 := LT.cell 0 rfl
              have e1 := LT.cell 1 rfl
              have e2 := LT.cell 2 rfl
              have hlt5 := LT.lt
              have HLT : Hid (Loc wc T5 [.int .i64 wd, .int .i64 hg9, .slice ao xs.length c]) := LT
              have HO9 : Hid (wc.ownsRow W2.heap.size 3 1 (.slice ao xs.length c) xs.length (xs.flatMap numC)) := HO
              have HZR : Hid (Loc wc w.heap.size [.int .i64 0, .int .i64 0, .slice none 0 0]) := ZR
              have HCC : Hid (CurOk wc b (K + 8 + 8 * (xs.length : Int) + 2 + 2 + 2)) := hC
              have HGG : Hid (But b (b + 1) w wc ∧ W2.heap.size ≤ wc.heap.size) := hg
              clear LT HO ZR hC hg
              repeat (first | (at_builtin; refine forgetL (fun w' => w' = _) rfl ?_) | go_values | go_skip | go_guarded | go_step | go_upon)
              intro W7 hW7
              have K7 : Kept wc W7 := by rw [hW7]; exact (But.refl _ _ _).alloc _
              have N7 : Loc W7 wc.heap.size [.int .i64 (zp)] := by rw [hW7]; exact Loc.new wc _ _
              have s7 := K7.size
              clear hW7
              refine wpList_append_own _ rfl _ _ 26 rfl W2.heap.size 3 i0 (.int .i64 0) 1 8 Try.underlying26 hi0 hz0 hz1 hz2 rfl (by decide) (.slice ao xs.length c) xs.length (xs.flatMap numC) rfl (own_kept HO9.out K7) ⟨wc.heap.size, 0, none⟩ 1 1 [.int .i64 (zp)] rfl rfl (news1 N7) (by simp [Value.oneCell']) (by unfold maxLen; omega) (by omega) (by have := HGG.out.2; omega) ?_
              intro v' w8 hown' hgrow _
              obtain ⟨ao5, cap5, hf5, _⟩ := own_form hown'
              subst hf5
              have L8 := (HLT.out.kept K7).grown hgrow (fun e => by have := own_lt HO9.out e; omega)
              have Z8 := (HZR.out.kept K7).grown hgrow (fun e => by have := own_lt HO9.out e; omega)
              have C8 : CurOk w8 b (K + 8 + 8 * (xs.length : Int) + 2 + 2 + 2) := by
                have h1 := HCC.out.kept K7
                exact h1.but ((But.refl W2.heap.size W7.heap.size W7).grown hgrow (fun k hk => .inr (own_lt (own_kept HO9.out K7) hk))) hbW
              have G8 : But b (b + 1) w w8 := ((HGG.out.1).transK K7).grown hgrow (fun k hk => .inl (by have := own_lt HO9.out hk; omega))
              have s8 := hgrow.size
              have x2 := L8.cell 2 rfl
              have x2f := L8.frozen 2
              have M8 := L8.set 2 (.slice ao5 (xs.length + 1) cap5)
              simp only [List.set_cons_zero, List.set_cons_succ] at M8
              have HR8 : Hid (Loc (w8.setCell ⟨T5, 2, none⟩ (.slice ao5 (xs.length + 1) cap5)) T5 [.int .i64 wd, .int .i64 hg9, .slice ao5 (xs.length + 1) cap5] ∧ Loc (w8.setCell ⟨T5, 2, none⟩ (.slice ao5 (xs.length + 1) cap5)) w.heap.size [.int .i64 0, .int .i64 0, .slice none 0 0] ∧ CurOk (w8.setCell ⟨T5, 2, none⟩ (.slice ao5 (xs.length + 1) cap5)) b (K + 8 + 8 * (xs.length : Int) + 2 + 2 + 2) ∧ But b (b + 1) w (w8.setCell ⟨T5, 2, none⟩ (.slice ao5 (xs.length + 1) cap5))) := ⟨M8, Z8.other (b' := T5) (j := 2) (by omega) _, C8.set (by omega) 2 _, G8.setNew (by simp; omega) _⟩
              have HW8 : Hid (World.ownsRow (w8.setCell ⟨T5, 2, none⟩ (.slice ao5 (xs.length + 1) cap5)) W2.heap.size 3 1 (.slice ao5 (xs.length + 1) cap5) (xs.length + 1) (xs.flatMap numC ++ [.int .i64 (zp)])) := own_but (lo := T5) (hi := T5 + 1) hown' ((But.refl _ _ _).setCell (by simp) (by simp) _) (fun g hg => by have := own_lt hown' hg; omega)
              have HS8 : Hid (W2.heap.size ≤ w8.heap.size) := by have := HGG.out.2; show _ ≤ _; omega
              clear hown' hgrow L8 Z8 C8 G8 M8 N7 HO9 HZR HCC HGG HLT K7
              dsimp only
              repeat (first | go_values | go_skip | go_guarded | go_step | go_upon)
              refine ⟨⟨k', xs ++ [(zp)], ao5, cap5, by omega, by rw [List.length_append]; simp only [List.length_cons, List.length_nil]; omega, by first | rfl | go_num, by rw [List.length_append]; exact HR8.out.1, ?_, HR8.out.2.1, by refine (HR8.out.2.2.1).le ?_; rw [List.length_append]; simp only [List.length_cons, List.length_nil]; omega, HR8.out.2.2.2, by simpa using HS8.out⟩, by simp [intOf]; omega⟩
              have h9 := HW8.out
              rw [List.flatMap_append, List.length_append]
              exact h9
            · dsimp only
              repeat (first | go_values | go_skip | go_guarded | go_step | go_upon)
              go_at_call 80
              refine (among_ok _ b _ (K + 8 + 8 * (xs.length : Int) + 2 + 2 + 2) [-2, s] (hC.alloc _) (by omega) (by have := hC.lt; omega) (Listed.of (Loc.new _ _ _)) (by simp) (by simp) 2 rfl).mono ?_
              rintro e wc2 ⟨z2, rfl, -, hC2, hg2⟩
              have j2 : But b (b + 1) wc wc2 := ((But.refl _ _ _).alloc _).trans hg2
              have LT := LT.cur j2 (by omega)
              have ZR := ZR.cur j2 (by omega)
              have HO := own_but HO j2 (fun g hg => by have := own_lt HO hg; omega)
              have hg : But b (b + 1) w wc2 ∧ W2.heap.size ≤ wc2.heap.size := ⟨hg.1.trans j2, by have := j2.size; omega⟩
              have hC := hC2
              clear hg2 hC2 j2
              dsimp only
              have e0 := LT.cell 0 rfl
              have e1 := LT.cell 1 rfl
              have e2 := LT.cell 2 rfl
              have hlt5 := LT.lt
              have HLT : Hid (Loc wc2 T5 [.int .i64 wd, .int .i64 hg9, .slice ao xs.length c]) := LT
              have HO9 : Hid (wc2.ownsRow W2.heap.size 3 1 (.slice ao xs.length c) xs.length (xs.flatMap numC)) := HO
              have HZR : Hid (Loc wc2 w.heap.size [.int .i64 0, .int .i64 0, .slice none 0 0]) := ZR
              have HCC : Hid (CurOk wc2 b (K + 8 + 8 * (xs.length : Int) + 2 + 2 + 2 + 2)) := hC
              have HGG : Hid (But b (b + 1) w wc2 ∧ W2.heap.size ≤ wc2.heap.size) := hg
              clear LT HO ZR hC hg
              repeat (first | (at_builtin; refine forgetL (fun w' => w' = _) rfl ?_) | go_values | go_skip | go_guarded | go_step | go_upon)
              intro W7 hW7
              have K7 : Kept wc2 W7 := by rw [hW7]; exact (But.refl _ _ _).alloc _
              have N7 : Loc W7 wc2.heap.size [.int .i64 (z2)] := by rw [hW7]; exact Loc.new wc2 _ _
              have s7 := K7.size
              clear hW7
              refine wpList_append_own _ rfl _ _ 26 rfl W2.heap.size 3 i0 (.int .i64 0) 1 8 Try.underlying26 hi0 hz0 hz1 hz2 rfl (by decide) (.slice ao xs.length c) xs.length (xs.flatMap numC) rfl (own_kept HO9.out K7) ⟨wc2.heap.size, 0, none⟩ 1 1 [.int .i64 (z2)] rfl rfl (news1 N7) (by simp [Value.oneCell']) (by unfold maxLen; omega) (by omega) (by have := HGG.out.2; omega) ?_
              intro v' w8 hown' hgrow _
              obtain ⟨ao5, cap5, hf5, _⟩ := own_form hown'
              subst hf5
              have L8 := (HLT.out.kept K7).grown hgrow (fun e => by have := own_lt HO9.out e; omega)
              have Z8 := (HZR.out.kept K7).grown hgrow (fun e => by have := own_lt HO9.out e; omega)
              have C8 : CurOk w8 b (K + 8 + 8 * (xs.length : Int) + 2 + 2 + 2 + 2) := by
                have h1 := HCC.out.kept K7
                exact h1.but ((But.refl W2.heap.size W7.heap.size W7).grown hgrow (fun k hk => .inr (own_lt (own_kept HO9.out K7) hk))) hbW
              have G8 : But b (b + 1) w w8 := ((HGG.out.1).transK K7).grown hgrow (fun k hk => .inl (by have := own_lt HO9.out hk; omega))
              have s8 := hgrow.size
              have x2 := L8.cell 2 rfl
              have x2f := L8.frozen 2
              have M8 := L8.set 2 (.slice ao5 (xs.length + 1) cap5)
              simp only [List.set_cons_zero, List.set_cons_succ] at M8
              have HR8 : Hid (Loc (w8.setCell ⟨T5, 2, none⟩ (.slice ao5 (xs.length + 1) cap5)) T5 [.int .i64 wd, .int .i64 hg9, .slice ao5 (xs.length + 1) cap5] ∧ Loc (w8.setCell ⟨T5, 2, none⟩ (.slice ao5 (xs.length + 1) cap5)) w.heap.size [.int .i64 0, .int .i64 0, .slice none 0 0] ∧ CurOk (w8.setCell ⟨T5, 2, none⟩ (.slice ao5 (xs.length + 1) cap5)) b (K + 8 + 8 * (xs.length : Int) + 2 + 2 + 2 + 2) ∧ But b (b + 1) w (w8.setCell ⟨T5, 2, none⟩ (.slice ao5 (xs.length + 1) cap5))) := ⟨M8, Z8.other (b' := T5) (j := 2) (by omega) _, C8.set (by omega) 2 _, G8.setNew (by simp; omega) _⟩
              have HW8 : Hid (World.ownsRow (w8.setCell ⟨T5, 2, none⟩ (.slice ao5 (xs.length + 1) cap5)) W2.heap.size 3 1 (.slice ao5 (xs.length + 1) cap5) (xs.length + 1) (xs.flatMap numC ++ [.int .i64 (z2)])) := own_but (lo := T5) (hi := T5 + 1) hown' ((But.refl _ _ _).setCell (by simp) (by simp) _) (fun g hg => by have := own_lt hown' hg; omega)
              have HS8 : Hid (W2.heap.size ≤ w8.heap.size) := by have := HGG.out.2; show _ ≤ _; omega
              clear hown' hgrow L8 Z8 C8 G8 M8 N7 HO9 HZR HCC HGG HLT K7
              dsimp only
              repeat (first | go_values | go_skip | go_guarded | go_step | go_upon)
              refine ⟨⟨k', xs ++ [(z2)], ao5, cap5, by omega, by rw [List.length_append]; simp only [List.length_cons, List.length_nil]; omega, by first | rfl | go_num, by rw [List.length_append]; exact HR8.out.1, ?_, HR8.out.2.1, by refine (HR8.out.2.2.1).le ?_; rw [List.length_append]; simp only [List.length_cons, List.length_nil]; omega, HR8.out.2.2.2, by simpa using HS8.out⟩, by simp [intOf]; omega⟩
              have h9 := HW8.out
              rw [List.flatMap_append, List.length_append]
              exact h9
          · have ds : decide (0 < s) = false := decide_eq_false hs0
            repeat (first | go_values | go_skip | go_guarded | go_step | go_upon)
            go_at_call 71
            refine (one_ok _ b (K + 8 + 8 * (xs.length : Int) + 2) 400 hC (by omega) (by omega)).mono ?_
            rintro e wc ⟨y2, rfl, hC, hg2⟩
            have LT := LT.cur hg2 (by omega)
            have ZR := ZR.cur hg2 (by omega)
            have HO := own_but HO hg2 (fun g hg => by have := own_lt HO hg; omega)
            have hg : But b (b + 1) w wc ∧ W2.heap.size ≤ wc.heap.size := ⟨hg.1.trans hg2, by have := hg2.size; omega⟩
            clear hg2
            cases y2
            · dsimp only
              have e0 := LT.cell 0 rfl
              have e1 := LT.cell 1 rfl
              have e2 := LT.cell 2 rfl
              have hlt5 := LT.lt
              have HLT : Hid (Loc wc T5 [.int .i64 wd, .int .i64 hg9, .slice ao xs.length c]) := LT
              have HO9 : Hid (wc.ownsRow W2.heap.size 3 1 (.slice ao xs.length c) xs.length (xs.flatMap numC)) := HO
              have HZR : Hid (Loc wc w.heap.size [.int .i64 0, .int .i64 0, .slice none 0 0]) := ZR
              have HCC : Hid (CurOk wc b (K + 8 + 8 * (xs.length : Int) + 2 + 2)) := hC
              have HGG : Hid (But b (b + 1) w wc ∧ W2.heap.size ≤ wc.heap.size) := hg
              clear LT HO ZR hC hg
              repeat (first | (at_builtin; refine forgetL (fun w' => w' = _) rfl ?_) | go_values | go_skip | go_guarded | go_step | go_upon)
              intro W7 hW7
              have K7 : Kept wc W7 := by rw [hW7]; exact (But.refl _ _ _).alloc _
              have N7 : Loc W7 wc.heap.size [.int .i64 (-1)] := by rw [hW7]; exact Loc.new wc _ _
              have s7 := K7.size
              clear hW7
              refine wpList_append_own _ rfl _ _ 26 rfl W2.heap.size 3 i0 (.int .i64 0) 1 8 Try.underlying26 hi0 hz0 hz1 hz2 rfl (by decide) (.slice ao xs.length c) xs.length (xs.flatMap numC) rfl (own_kept HO9.out K7) ⟨wc.heap.size, 0, none⟩ 1 1 [.int .i64 (-1)] rfl rfl (news1 N7) (by simp [Value.oneCell']) (by unfold maxLen; omega) (by omega) (by have := HGG.out.2; omega) ?_
              intro v' w8 hown' hgrow _
              obtain ⟨ao5, cap5, hf5, _⟩ := own_form hown'
              subst hf5
              have L8 := (HLT.out.kept K7).grown hgrow (fun e => by have := own_lt HO9.out e; omega)
              have Z8 := (HZR.out.kept K7).grown hgrow (fun e => by have := own_lt HO9.out e; omega)
              have C8 : CurOk w8 b (K + 8 + 8 * (xs.length : Int) + 2 + 2) := by
                have h1 := HCC.out.kept K7
                exact h1.but ((But.refl W2.heap.size W7.heap.size W7).grown hgrow (fun k hk => .inr (own_lt (own_kept HO9.out K7) hk))) hbW
              have G8 : But b (b + 1) w w8 := ((HGG.out.1).transK K7).grown hgrow (fun k hk => .inl (by have := own_lt HO9.out hk; omega))
              have s8 := hgrow.size
              have x2 := L8.cell 2 rfl
              have x2f := L8.frozen 2
              have M8 := L8.set 2 (.slice ao5 (xs.length + 1) cap5)
              simp only [List.set_cons_zero, List.set_cons_succ] at M8
              have HR8 : Hid (Loc (w8.setCell ⟨T5, 2, none⟩ (.slice ao5 (xs.length + 1) cap5)) T5 [.int .i64 wd, .int .i64 hg9, .slice ao5 (xs.length + 1) cap5] ∧ Loc (w8.setCell ⟨T5, 2, none⟩ (.slice ao5 (xs.length + 1) cap5)) w.heap.size [.int .i64 0, .int .i64 0, .slice none 0 0] ∧ CurOk (w8.setCell ⟨T5, 2, none⟩ (.slice ao5 (xs.length + 1) cap5)) b (K + 8 + 8 * (xs.length : Int) + 2 + 2) ∧ But b (b + 1) w (w8.setCell ⟨T5, 2, none⟩ (.slice ao5 (xs.length + 1) cap5))) := ⟨M8, Z8.other (b' := T5) (j := 2) (by omega) _, C8.set (by omega) 2 _, G8.setNew (by simp; omega) _⟩
              have HW8 : Hid (World.ownsRow (w8.setCell ⟨T5, 2, none⟩ (.slice ao5 (xs.length + 1) cap5)) W2.heap.size 3 1 (.slice ao5 (xs.length + 1) cap5) (xs.length + 1) (xs.flatMap numC ++ [.int .i64 (-1)])) := own_but (lo := T5) (hi := T5 + 1) hown' ((But.refl _ _ _).setCell (by simp) (by simp) _) (fun g hg => by have := own_lt hown' hg; omega)
              have HS8 : Hid (W2.heap.size ≤ w8.heap.size) := by have := HGG.out.2; show _ ≤ _; omega
              clear hown' hgrow L8 Z8 C8 G8 M8 N7 HO9 HZR HCC HGG HLT K7
              dsimp only
              repeat (first | go_values | go_skip | go_guarded | go_step | go_upon)
              refine ⟨⟨k', xs ++ [(-1)], ao5, cap5, by omega, by rw [List.length_append]; simp only [List.length_cons, List.length_nil]; omega, by first | rfl | go_num, by rw [List.length_append]; exact HR8.out.1, ?_, HR8.out.2.1, by refine (HR8.out.2.2.1).le ?_; rw [List.length_append]; simp only [List.length_cons, List.length_nil]; omega, HR8.out.2.2.2, by simpa using HS8.out⟩, by simp [intOf]; omega⟩
              have h9 := HW8.out
              rw [List.flatMap_append, List.length_append]
              exact h9
            · dsimp only
              repeat (first | go_values | go_skip | go_guarded | go_step | go_upon)
              go_at_call 80
              refine (among_ok _ b _ (K + 8 + 8 * (xs.length : Int) + 2 + 2) [-2, s] (hC.alloc _) (by omega) (by have := hC.lt; omega) (Listed.of (Loc.new _ _ _)) (by simp) (by simp) 2 rfl).mono ?_
              rintro e wc2 ⟨z2, rfl, -, hC2, hg2⟩
              have j2 : But b (b + 1) wc wc2 := ((But.refl _ _ _).alloc _).trans hg2
              have LT := LT.cur j2 (by omega)
              have ZR := ZR.cur j2 (by omega)
              have HO := own_but HO j2 (fun g hg => by have := own_lt HO hg; omega)
              have hg : But b (b + 1) w wc2 ∧ W2.heap.size ≤ wc2.heap.size := ⟨hg.1.trans j2, by have := j2.size; omega⟩
              have hC := hC2
              clear hg2 hC2 j2
              dsimp only
              have e0 := LT.cell 0 rfl
              have e1 := LT.cell 1 rfl
              have e2 := LT.cell 2 rfl
              have hlt5 := LT.lt
              have HLT : Hid (Loc wc2 T5 [.int .i64 wd, .int .i64 hg9, .slice ao xs.length c]) := LT
              have HO9 : Hid (wc2.ownsRow W2.heap.size 3 1 (.slice ao xs.length c) xs.length (xs.flatMap numC)) := HO
              have HZR : Hid (Loc wc2 w.heap.size [.int .i64 0, .int .i64 0, .slice none 0 0]) := ZR
              have HCC : Hid (CurOk wc2 b (K + 8 + 8 * (xs.length : Int) + 2 + 2 + 2)) := hC
              have HGG : Hid (But b (b + 1) w wc2 ∧ W2.heap.size ≤ wc2.heap.size) := hg
              clear LT HO ZR hC hg
              repeat (first | (at_builtin; refine forgetL (fun w' => w' = _) rfl ?_) | go_values | go_skip | go_guarded | go_step | go_upon)
              intro W7 hW7
              have K7 : Kept wc2 W7 := by rw [hW7]; exact (But.refl _ _ _).alloc _
              have N7 : Loc W7 wc2.heap.size [.int .i64 (z2)] := by rw [hW7]; exact Loc.new wc2 _ _
              have s7 := K7.size
              clear hW7
              refine wpList_append_own _ rfl _ _ 26 rfl W2.heap.size 3 i0 (.int .i64 0) 1 8 Try.underlying26 hi0 hz0 hz1 hz2 rfl (by decide) (.slice ao xs.length c) xs.length (xs.flatMap numC) rfl (own_kept HO9.out K7) ⟨wc2.heap.size, 0, none⟩ 1 1 [.int .i64 (z2)] rfl rfl (news1 N7) (by simp [Value.oneCell']) (by unfold maxLen; omega) (by omega) (by have := HGG.out.2; omega) ?_
              intro v' w8 hown' hgrow _
              obtain ⟨ao5, cap5, hf5, _⟩ := own_form hown'
              subst hf5
              have L8 := (HLT.out.kept K7).grown hgrow (fun e => by have := own_lt HO9.out e; omega)
              have Z8 := (HZR.out.kept K7).grown hgrow (fun e => by have := own_lt HO9.out e; omega)
              have C8 : CurOk w8 b (K + 8 + 8 * (xs.length : Int) + 2 + 2 + 2) := by
                have h1 := HCC.out.kept K7
                exact h1.but ((But.refl W2.heap.size W7.heap.size W7).grown hgrow (fun k hk => .inr (own_lt (own_kept HO9.out K7) hk))) hbW
              have G8 : But b (b + 1) w w8 := ((HGG.out.1).transK K7).grown hgrow (fun k hk => .inl (by have := own_lt HO9.out hk; omega))
              have s8 := hgrow.size
              have x2 := L8.cell 2 rfl
              have x2f := L8.frozen 2
              have M8 := L8.set 2 (.slice ao5 (xs.length + 1) cap5)
              simp only [List.set_cons_zero, List.set_cons_succ] at M8
              have HR8 : Hid (Loc (w8.setCell ⟨T5, 2, none⟩ (.slice ao5 (xs.length + 1) cap5)) T5 [.int .i64 wd, .int .i64 hg9, .slice ao5 (xs.length + 1) cap5] ∧ Loc (w8.setCell ⟨T5, 2, none⟩ (.slice ao5 (xs.length + 1) cap5)) w.heap.size [.int .i64 0, .int .i64 0, .slice none 0 0] ∧ CurOk (w8.setCell ⟨T5, 2, none⟩ (.slice ao5 (xs.length + 1) cap5)) b (K + 8 + 8 * (xs.length : Int) + 2 + 2 + 2) ∧ But b (b + 1) w (w8.setCell ⟨T5, 2, none⟩ (.slice ao5 (xs.length + 1) cap5))) := ⟨M8, Z8.other (b' := T5) (j := 2) (by omega) _, C8.set (by omega) 2 _, G8.setNew (by simp; omega) _⟩
              have HW8 : Hid (World.ownsRow (w8.setCell ⟨T5, 2, none⟩ (.slice ao5 (xs.length + 1) cap5)) W2.heap.size 3 1 (.slice ao5 (xs.length + 1) cap5) (xs.length + 1) (xs.flatMap numC ++ [.int .i64 (z2)])) := own_but (lo := T5) (hi := T5 + 1) hown' ((But.refl _ _ _).setCell (by simp) (by simp) _) (fun g hg => by have := own_lt hown' hg; omega)
              have HS8 : Hid (W2.heap.size ≤ w8.heap.size) := by have := HGG.out.2; show _ ≤ _; omega
              clear hown' hgrow L8 Z8 C8 G8 M8 N7 HO9 HZR HCC HGG HLT K7
              dsimp only
              repeat (first | go_values | go_skip | go_guarded | go_step | go_upon)
              refine ⟨⟨k', xs ++ [(z2)], ao5, cap5, by omega, by rw [List.length_append]; simp only [List.length_cons, List.length_nil]; omega, by first | rfl | go_num, by rw [List.length_append]; exact HR8.out.1, ?_, HR8.out.2.1, by refine (HR8.out.2.2.1).le ?_; rw [List.length_append]; simp only [List.length_cons, List.length_nil]; omega, HR8.out.2.2.2, by simpa using HS8.out⟩, by simp [intOf]; omega⟩
              have h9 := HW8.out
              rw [List.flatMap_append, List.length_append]
              exact h9
      · have hke : k = 0 := by omega
        subst hke
        have t0 := LT.cell 0 rfl
        have t1 := LT.cell 1 rfl
        have t2 := LT.cell 2 rfl
        have u0 := ZR.cell 0 rfl
        have uf0 := ZR.frozen 0
        have U1 := ZR.set 0 (.int .i64 wd)
        simp only [List.set_cons_zero] at U1
        have u1 := U1.cell 1 rfl
        have uf1 := U1.frozen 1
        have U2 := U1.set 1 (.int .i64 hg9)
        simp only [List.set_cons_zero, List.set_cons_succ] at U2
        have u2 := U2.cell 2 rfl
        have uf2 := U2.frozen 2
        have U3 := U2.set 2 (.slice ao xs.length c)
        simp only [List.set_cons_zero, List.set_cons_succ] at U3
        have v0 := U3.cell 0 rfl
        have v1 := U3.cell 1 rfl
        have v2 := U3.cell 2 rfl
        have B9 : But w.heap.size (w.heap.size + 1) wr (((wr.setCell ⟨w.heap.size, 0, none⟩ (.int .i64 wd)).setCell ⟨w.heap.size, 1, none⟩ (.int .i64 hg9)).setCell ⟨w.heap.size, 2, none⟩ (.slice ao xs.length c)) := (((But.refl _ _ _).setCell (by simp) (by simp) _).setCell (by simp) (by simp) _).setCell (by simp) (by simp) _
        have h9 := own_but HO B9 (fun g hg => by have := own_lt HO hg; omega)
        have HF : Hid (World.ownsRow (((wr.setCell ⟨w.heap.size, 0, none⟩ (.int .i64 wd)).setCell ⟨w.heap.size, 1, none⟩ (.int .i64 hg9)).setCell ⟨w.heap.size, 2, none⟩ (.slice ao xs.length c)) W2.heap.size 3 1 (.slice ao xs.length c) xs.length (xs.flatMap numC) ∧ CurOk (((wr.setCell ⟨w.heap.size, 0, none⟩ (.int .i64 wd)).setCell ⟨w.heap.size, 1, none⟩ (.int .i64 hg9)).setCell ⟨w.heap.size, 2, none⟩ (.slice ao xs.length c)) b (K + 8 + 8 * (xs.length : Int)) ∧ But b (b + 1) w (((wr.setCell ⟨w.heap.size, 0, none⟩ (.int .i64 wd)).setCell ⟨w.heap.size, 1, none⟩ (.int .i64 hg9)).setCell ⟨w.heap.size, 2, none⟩ (.slice ao xs.length c))) := ⟨h9, ((hC.set hbT.2.1 0 _).set hbT.2.1 1 _).set hbT.2.1 2 _, ((hg.1.setNew (by simp) _).setNew (by simp) _).setNew (by simp) _⟩
        clear U1 U2 U3 LT ZR HO hC hg B9 h9
        repeat (first | go_values | go_skip | go_guarded | go_step | go_upon)
        refine bodyPost_ret (v := .agg #[.int .i64 wd, .int .i64 hg9, .slice ao xs.length c]) (by simp [results, Try.results69, go_sem, *]) rfl ?_
        exact ⟨(wd, hg9, xs), _, rfl, ⟨_, rfl, RowO.mono (RowO.top HF.out.1) (by omega) (Nat.le_refl _)⟩, by show xs.length ≤ 100; omega, HF.out.2.1.le (by omega), HF.out.2.2⟩

end Go.Proofs.Ytopakblckajdmaa
