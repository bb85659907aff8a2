/-
  The longest stretch: the program.
-/
import Derived.Test.YtipgffikmnebnaaAlike21
import Derived.Deep.Cut
namespace Go.Proofs.Ytipgffikmnebnaa
open Go.ChangeShapes Go.WideShapes Go.ChangeAt Go.RowKit

set_option maxRecDepth 100000
set_option linter.unusedVariables false
set_option linter.unusedSimpArgs false

set_option maxHeartbeats 4000000 in
theorem ilong (x y : List UInt8) (a1 a2 : Option Addr) (c1 c2 : Nat) (w : World) (hx : BytAt w (.slice a1 x.length c1) x) (hy : BytAt w (.slice a2 y.length c2) y) (hxl : x.length ≤ 1048576) (hyl : y.length ≤ 1048576) (hc : x.length ≤ c1) :
    Calls Try.prog 77 #[.slice a1 x.length c1, .slice a2 y.length c2] w fun e w' => e = .returned (.agg #[.int .i64 ((bestL y 0 x (0, 0)).1 : Nat), .int .i64 ((bestL y 0 x (0, 0)).2 : Nat), .slice none 0 0]) ∧ Kept w w' := by
  obtain ⟨R, hR⟩ : ∃ r, bestL y 0 x (0, 0) = r := ⟨_, rfl⟩
  have HR : Hid (bestL y 0 x (0, 0) = R) := hR
  rw [hR]
  clear hR
  have HX : Hid (BytAt w (.slice a1 x.length c1) x) := hx
  have HY : Hid (BytAt w (.slice a2 y.length c2) y) := hy
  clear hx hy
  have L4 := (Loc.new w [.int .i64 0, .int .i64 0, .slice none 0 0] 108).alloc (.cells #[.int .i64 0, .int .i64 0, .slice none 0 0] 108)
  have L5 := Loc.new (w.alloc (.cells #[.int .i64 0, .int .i64 0, .slice none 0 0] 108)) [.int .i64 0, .int .i64 0, .slice none 0 0] 108
  simp only [World.size_alloc] at L5
  have H4 : Hid (Loc _ w.heap.size [.int .i64 0, .int .i64 0, .slice none 0 0]) := L4
  have H5 : Hid (Loc _ (w.heap.size + 1) [.int .i64 0, .int .i64 0, .slice none 0 0]) := L5
  clear L4 L5
  go_enter Try.func77, Try.ntmps77
  repeat (first | go_values | go_skip | go_guarded | go_step | go_upon)
  go_loopw [10] (fun s wr => ∃ (k f m : Nat), k ≤ x.length ∧ s = .int .i64 k ∧ Hid (bestL y k (x.drop k) (f, m) = R) ∧ f + m ≤ 2097152 ∧ Loc wr w.heap.size [.int .i64 0, .int .i64 0, .slice none 0 0] ∧ Loc wr (w.heap.size + 1) [.int .i64 (f : Nat), .int .i64 (m : Nat), .slice none 0 0] ∧ Kept w wr) (fun s _ => x.length - (intOf s).toNat)
  case atStart => exact ⟨0, 0, 0, by omega, rfl, by show _ = _; rw [List.drop_zero]; exact HR.out, by omega, H4.out, H5.out, ((But.refl _ _ _).alloc _).alloc _⟩
  case round =>
    obtain ⟨k, f, m, hk, rfl, HB, hfm, L4, L5, hkp⟩ := hrel
    have HKP : Hid (Kept w wr) := hkp
    by_cases h1 : k < x.length
    · have hal := alike_le (x.drop k) y
      have HBA := best_at (now := y) (r := (f, m)) h1
      rw [HB.out] at HBA
      have HAL : Hid (∀ W, Kept wr W → Calls Try.prog 120 #[.slice (if c1 = k then a1 else a1.map (·.add k)) (x.drop k).length (c1 - k), .slice a2 y.length c2] W fun e w' => e = .returned (.int .i64 (alikeN (x.drop k) y : Nat)) ∧ Kept W w') := fun W q => ialikeB (x.drop k) y _ _ _ _ W (by rw [show (x.drop k).length = x.length - k by simp]; exact drop_byt ((HX.out.kept hkp).kept q) rfl hk hc) ((HY.out.kept hkp).kept q) (by simp; omega) hyl
      have hsl := fun W => slice_fr W a1 x.length c1 k hk
      rw [show x.length - k = (x.drop k).length by simp] at hsl
      have v1 := L5.cell 1 rfl
      have vl := L5.lt
      generalize (if c1 = k then a1 else a1.map (·.add k)) = A9 at *
      generalize (x.drop k).length = n9 at *
      generalize c1 - k = C9 at *
      obtain ⟨N, hN⟩ : ∃ N, alikeN (x.drop k) y = N := ⟨_, rfl⟩
      rw [hN] at HAL HBA hal
      have HBA : Hid (R = bestL y (k + 1) (x.drop (k + 1)) (if m < N then (k, N) else (f, m))) := HBA
      have H4 : Hid (Loc wr w.heap.size [.int .i64 0, .int .i64 0, .slice none 0 0]) := L4
      have H5 : Hid (Loc wr (w.heap.size + 1) [.int .i64 (f : Nat), .int .i64 (m : Nat), .slice none 0 0]) := L5
      have HNb : Hid (N ≤ 1048576) := by show _ ≤ _; omega
      clear hN hal HB hkp L4 L5
      repeat (first | (go_at_call 120; refine (HAL.out _ (But.refl _ _ _)).mono ?_; rintro e w4 ⟨rfl, k4⟩; have v1 := Kept.cell k4 v1; have vl := Nat.lt_of_lt_of_le vl k4.size; dsimp only; have HK4 : Hid (Kept wr w4) := k4; clear k4) | go_values | go_skip | go_guarded | go_not_at_region 6; go_step | go_upon)
      have L4 := H4.out.kept HK4.out
      have L5 := H5.out.kept HK4.out
      have hne : w.heap.size ≠ w.heap.size + 1 := by omega
      by_cases h2 : m < N
      · have d2 : decide (m < N) = true := decide_eq_true h2
        have d3 : decide ((m : Int) < (N : Int)) = true := decide_eq_true (by omega)
        have HB2 : Hid (bestL y (k + 1) (x.drop (k + 1)) (k, N) = R) := by show _ = _; rw [HBA.out, if_pos h2]
        have b0 := L5.cell 0 rfl
        have b2 := L5.cell 2 rfl
        have g0 := L5.frozen 0
        have g1 := L5.frozen 1
        have g2 := L5.frozen 2
        have H4' : Hid (Loc w4 w.heap.size [.int .i64 0, .int .i64 0, .slice none 0 0]) := L4
        have H5' : Hid (Loc w4 (w.heap.size + 1) [.int .i64 (f : Nat), .int .i64 (m : Nat), .slice none 0 0]) := L5
        clear L4 L5 h2 HBA
        repeat (first | go_values | go_skip | go_guarded | go_step | go_upon)
        refine ⟨⟨k + 1, k, N, h1, by go_num, HB2, by have := HNb.out; omega, ((H4'.out.other hne _).other hne _).other hne _, ((H5'.out.set 0 _).set 1 _).set 2 _, (((HKP.out.trans HK4.out).setNew (by simp) _).setNew (by simp) _).setNew (by simp) _⟩, by simp [intOf]; omega⟩
      · have d2 : decide (m < N) = false := decide_eq_false h2
        have d3 : decide ((m : Int) < (N : Int)) = false := decide_eq_false (by omega)
        have HB2 : Hid (bestL y (k + 1) (x.drop (k + 1)) (f, m) = R) := by show _ = _; rw [HBA.out, if_neg h2]
        have H4' : Hid (Loc w4 w.heap.size [.int .i64 0, .int .i64 0, .slice none 0 0]) := L4
        have H5' : Hid (Loc w4 (w.heap.size + 1) [.int .i64 (f : Nat), .int .i64 (m : Nat), .slice none 0 0]) := L5
        clear L4 L5 h2 HBA
        repeat (first | go_values | go_skip | go_guarded | go_step | go_upon)
        exact ⟨⟨k + 1, f, m, h1, by go_num, HB2, hfm, H4'.out, H5'.out, HKP.out.trans HK4.out⟩, by simp [intOf]; omega⟩
    · have hR : R = (f, m) := by rw [← HB.out, best_end h1]
      subst hR
      have p0 := L4.cell 0 rfl
      have p1 := L4.cell 1 rfl
      have p2 := L4.cell 2 rfl
      have f0 := L4.frozen 0
      have f1 := L4.frozen 1
      have f2 := L4.frozen 2
      have b0 := L5.cell 0 rfl
      have b1 := L5.cell 1 rfl
      have b2 := L5.cell 2 rfl
      have al := L4.lt
      have bl := L5.lt
      clear L4 L5 hkp
      repeat (first | go_values | go_skip | go_guarded | go_step | go_upon)
      refine bodyPost_ret (v := .agg #[.int .i64 (f : Nat), .int .i64 (m : Nat), .slice none 0 0]) (by simp [results, Try.results77, go_sem, *]) rfl ?_
      exact ⟨rfl, ((HKP.out.setNew (by simp) _).setNew (by simp) _).setNew (by simp) _⟩

end Go.Proofs.Ytipgffikmnebnaa
