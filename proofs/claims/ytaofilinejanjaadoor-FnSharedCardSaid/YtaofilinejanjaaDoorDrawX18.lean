/-
  The text that is drawn.
-/
import Derived.Test.YtaofilinejanjaaDoorDrawT18
namespace Go.Proofs.YtaofilinejanjaaDoor
open Go.ChangeShapes Go.WideShapes Go.ChangeAt Go.RowKit

set_option maxRecDepth 100000
set_option linter.unusedVariables false

set_option maxHeartbeats 8000000 in
theorem text_ok (w : World) (b : Nat) (K : Int) (h : CurOk w b K) (hK : K ≤ 1152921504606830000) :
    Calls Tryd.prog 27 #[.pointer (some ⟨b, 0, none⟩)] w fun e w' => ∃ s : ByteArray, e = .returned (.string s) ∧ s.size ≤ 800 ∧ CurOk w' b (K + 408) ∧ But b (b + 1) w w' := by
  go_enter Tryd.func27, Tryd.ntmps27
  repeat (first | go_values | go_skip | go_guarded | go_step | go_upon)
  go_at_call 19
  refine (pick_ok _ b K 30 h (by omega) (by omega)).mono ?_
  rintro e w1 ⟨n, rfl, hn, hC, hg⟩
  dsimp only
  obtain ⟨N, rfl, hN⟩ := nat_of n 30 hn.1 hn.2
  clear hn
  repeat (first | go_values | go_skip | go_guarded | go_step | go_upon)
  go_at_call 20
  refine (one_ok _ b (K + 2) 20 hC (by omega) (by omega)).mono ?_
  rintro e w2 ⟨yes, rfl, hC2, hg2⟩
  dsimp only
  have G2 : But b (b + 1) w w2 := hg.trans hg2
  clear hg hg2 hC
  cases yes
  · (try dsimp only)
    obtain ⟨M, hM, hMl⟩ : ∃ M : Nat, M = N ∧ M ≤ 200 := ⟨N, rfl, by omega⟩
    subst hM
    have HC : Hid (CurOk w2 b (K + 8)) := hC2.le (by omega)
    have HG : Hid (But b (b + 1) w w2) := G2
    clear hC2 G2
    repeat (first | go_values | go_skip | go_guarded | go_step | go_upon)
    go_loopw [3, 4] (fun x y wr => ∃ (m : Nat) (s : ByteArray), y = .int .i64 m ∧ x = .string s ∧ m ≤ 200 ∧ Hid (s.size + 4 * m ≤ 800) ∧ Hid (CurOk wr b (K + 8 + 2 * (200 - (m : Int)))) ∧ Hid (But b (b + 1) w wr)) (fun x y _ => (intOf y).toNat)
    case atStart => exact ⟨M, ByteArray.empty, rfl, rfl, hMl, (show ByteArray.empty.size + 4 * M ≤ 800 by simp; omega), (HC.out.le (by omega) : CurOk _ _ _), HG⟩
    case round =>
      obtain ⟨m, s, rfl, rfl, hm, HS, HCr, HGr⟩ := hrel
      by_cases hpos : 0 < m
      · have dp : decide ((0 : Int) < (m : Int)) = true := by simp; omega
        have dp2 : decide (0 < m) = true := by simp; omega
        obtain ⟨m', hm'⟩ : ∃ m', m = m' + 1 := ⟨m - 1, by omega⟩
        have hw1 : IntKind.i64.wrap ((m : Int) - 1) = (m' : Int) := by rw [IntWalk.i64_in _ (by omega)]; omega
        have HM' : Hid (m = m' + 1) := hm'
        have hlt := HCr.out.lt
        have HT : Hid (∀ i, i < 14 → ∃ s : ByteArray, (wr.alloc (.cells (texL.map fun z => Value.string z).toArray 9)).cell? ⟨wr.heap.size, i, none⟩ = some (.string s) ∧ s.size ≤ 4) := tex_at wr _ b (But.refl _ _ _) hlt
        have HCa : Hid (CurOk (wr.alloc (.cells (texL.map fun z => Value.string z).toArray 9)) b (K + 8 + 2 * (200 - (m : Int)))) := HCr.out.alloc _
        have HGa : Hid (But b (b + 1) w (wr.alloc (.cells (texL.map fun z => Value.string z).toArray 9))) := HGr.out.alloc _
        clear hm' HCr HGr hpos
        repeat (first | go_values | go_skip | go_guarded | go_step | go_upon)
        go_at_call 37
        refine (of_ok _ b wr.heap.size (K + 8 + 2 * (200 - (m : Int))) HCa.out (by omega) (by omega) HT.out).mono ?_
        rintro e w5 ⟨r, rfl, lr, hC5, hg5⟩
        dsimp only
        have HC5 : Hid (CurOk w5 b (K + 8 + 2 * (200 - (m : Int)) + 2)) := hC5
        have HG5 : Hid (But b (b + 1) w w5) := HGa.out.trans hg5
        have HS2 : Hid ((s ++ r).size + 4 * m' ≤ 800) := (by have := HS.out; have := HM'.out; rw [ByteArray.size_append]; omega : (s ++ r).size + 4 * m' ≤ 800)
        have hbig : ¬ 9223372036854775807 < s.size + r.size := by have := HS.out; omega
        clear hC5 hg5 HT HCa HGa HS
        repeat (first | go_values | go_skip | go_guarded | go_step | go_upon)
        refine ⟨⟨m', s ++ r, by first | rfl | (congr 1), rfl, by have := HM'.out; omega, HS2, (HC5.out.le (by have := HM'.out; omega) : CurOk _ _ _), HG5⟩, by have := HM'.out; simp [intOf]; omega⟩
      · have hm0 : m = 0 := by omega
        subst hm0
        repeat (first | go_values | go_skip | go_guarded | go_step | go_upon)
        go_ret
        exact ⟨s, rfl, by have := HS.out; omega, HCr.out.le (by omega), HGr.out⟩
  · repeat (first | go_values | go_skip | go_guarded | go_step | go_upon)
    go_at_call 19
    refine (pick_ok _ b (K + 2 + 2) 100 hC2 (by omega) (by omega)).mono ?_
    rintro e w3 ⟨z, rfl, hz, hC3, hg3⟩
    dsimp only
    obtain ⟨Z, rfl, hZ⟩ := nat_of z 100 hz.1 hz.2
    clear hz
    have hsum : IntKind.i64.wrap (100 + (Z : Int)) = ((100 + Z : Nat) : Int) := by rw [IntWalk.i64_in _ (by omega)]; omega
    have hsum2 : (100 : Int) + (Z : Int) = ((100 + Z : Nat) : Int) := by omega
    obtain ⟨M, hM, hMl⟩ : ∃ M : Nat, 100 + Z = M ∧ M ≤ 200 := ⟨100 + Z, rfl, by omega⟩
    rw [hM] at hsum hsum2
    have HC : Hid (CurOk w3 b (K + 8)) := hC3.le (by omega)
    have HG : Hid (But b (b + 1) w w3) := G2.trans hg3
    clear hC2 G2 hC3 hg3 hM
    repeat (first | go_values | go_skip | go_guarded | go_step | go_upon)
    clear hsum hsum2
    go_loopw [3, 4] (fun x y wr => ∃ (m : Nat) (s : ByteArray), y = .int .i64 m ∧ x = .string s ∧ m ≤ 200 ∧ Hid (s.size + 4 * m ≤ 800) ∧ Hid (CurOk wr b (K + 8 + 2 * (200 - (m : Int)))) ∧ Hid (But b (b + 1) w wr)) (fun x y _ => (intOf y).toNat)
    case atStart => exact ⟨M, ByteArray.empty, rfl, rfl, hMl, (show ByteArray.empty.size + 4 * M ≤ 800 by simp; omega), (HC.out.le (by omega) : CurOk _ _ _), HG⟩
    case round =>
      obtain ⟨m, s, rfl, rfl, hm, HS, HCr, HGr⟩ := hrel
      by_cases hpos : 0 < m
      · have dp : decide ((0 : Int) < (m : Int)) = true := by simp; omega
        have dp2 : decide (0 < m) = true := by simp; omega
        obtain ⟨m', hm'⟩ : ∃ m', m = m' + 1 := ⟨m - 1, by omega⟩
        have hw1 : IntKind.i64.wrap ((m : Int) - 1) = (m' : Int) := by rw [IntWalk.i64_in _ (by omega)]; omega
        have HM' : Hid (m = m' + 1) := hm'
        have hlt := HCr.out.lt
        have HT : Hid (∀ i, i < 14 → ∃ s : ByteArray, (wr.alloc (.cells (texL.map fun z => Value.string z).toArray 9)).cell? ⟨wr.heap.size, i, none⟩ = some (.string s) ∧ s.size ≤ 4) := tex_at wr _ b (But.refl _ _ _) hlt
        have HCa : Hid (CurOk (wr.alloc (.cells (texL.map fun z => Value.string z).toArray 9)) b (K + 8 + 2 * (200 - (m : Int)))) := HCr.out.alloc _
        have HGa : Hid (But b (b + 1) w (wr.alloc (.cells (texL.map fun z => Value.string z).toArray 9))) := HGr.out.alloc _
        clear hm' HCr HGr hpos
        repeat (first | go_values | go_skip | go_guarded | go_step | go_upon)
        go_at_call 37
        refine (of_ok _ b wr.heap.size (K + 8 + 2 * (200 - (m : Int))) HCa.out (by omega) (by omega) HT.out).mono ?_
        rintro e w5 ⟨r, rfl, lr, hC5, hg5⟩
        dsimp only
        have HC5 : Hid (CurOk w5 b (K + 8 + 2 * (200 - (m : Int)) + 2)) := hC5
        have HG5 : Hid (But b (b + 1) w w5) := HGa.out.trans hg5
        have HS2 : Hid ((s ++ r).size + 4 * m' ≤ 800) := (by have := HS.out; have := HM'.out; rw [ByteArray.size_append]; omega : (s ++ r).size + 4 * m' ≤ 800)
        have hbig : ¬ 9223372036854775807 < s.size + r.size := by have := HS.out; omega
        clear hC5 hg5 HT HCa HGa HS
        repeat (first | go_values | go_skip | go_guarded | go_step | go_upon)
        refine ⟨⟨m', s ++ r, by first | rfl | (congr 1), rfl, by have := HM'.out; omega, HS2, (HC5.out.le (by have := HM'.out; omega) : CurOk _ _ _), HG5⟩, by have := HM'.out; simp [intOf]; omega⟩
      · have hm0 : m = 0 := by omega
        subst hm0
        repeat (first | go_values | go_skip | go_guarded | go_step | go_upon)
        go_ret
        exact ⟨s, rfl, by have := HS.out; omega, HCr.out.le (by omega), HGr.out⟩

end Go.Proofs.YtaofilinejanjaaDoor
