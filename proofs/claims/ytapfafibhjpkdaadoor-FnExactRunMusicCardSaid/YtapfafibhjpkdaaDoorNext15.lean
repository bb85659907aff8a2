/-
  Music one beat later, in the program.
-/
import Derived.Test.YtapfafibhjpkdaaDoorCont15
import Derived.Test.YtapfafibhjpkdaaDoorSecL15
namespace Go.Proofs.YtapfafibhjpkdaaDoor
open Go.ChangeShapes Go.WideShapes Go.ChangeAt Go.RowKit

set_option maxRecDepth 100000
set_option linter.unusedVariables false

set_option maxHeartbeats 4000000 in
theorem inext (l : List SectionD) (ao : Option Addr) (cap : Nat) (m0 : ByteArray) (m1 : Int) (m2 : ByteArray) (w : World) (hv : SecsAt w (.slice ao l.length cap) l) (hn : secsCost l ≤ 1048576) (hS : SecsP l) (hm : MusOk l (m0, m1, m2)) :
    Calls Tryd.prog 26 #[.slice ao l.length cap, .agg #[.string m0, .int .i64 m1, .string m2]] w fun e w' => e = .returned (.agg #[.string (nextM l (m0, m1, m2)).1, .int .i64 (nextM l (m0, m1, m2)).2.1, .string (nextM l (m0, m1, m2)).2.2]) ∧ Kept w w' := by
  have K0 : Kept w ((w.alloc (.cells #[.string m0, .int .i64 m1, .string m2] 27)).alloc (.cells #[.string ⟨#[]⟩, .int .i64 0, .string ⟨#[]⟩] 27)) := ((But.refl _ _ _).alloc _).alloc _
  have hln : l.length ≤ 1048576 := by unfold secsCost at hn; omega
  have hcs : Hid (∀ d ∈ l, d.1.size ≤ 1048576 ∧ d.2.2.1.length ≤ 1048576) := fun d hd => by
    have := secs_one hd
    unfold secsOne at this
    omega
  obtain ⟨k, d, hq, hd, hb, hw⟩ := hm
  have HF := ifind l m0 _ _ (hv.kept K0) hln
  unfold FindE at HF
  dsimp only at hq
  rw [hq] at HF
  go_enter Tryd.func26, Tryd.ntmps26
  repeat (first | go_values | go_skip | go_guarded | go_step | go_upon)
  go_at_call 33
  refine HF.mono ?_
  rintro e w1 ⟨⟨d', s, h1, h2, rfl⟩, k1⟩
  rw [hd] at h1
  cases h1
  obtain ⟨a3, p3, hsl⟩ := row_nil h2
  subst hsl
  have hsd := secD_at hq hd
  obtain ⟨d0, d1, d2, d3⟩ := d
  have HN : Hid (NumAt w1 (.slice a3 d2.length p3) d2) := h2.kept k1
  have L1 := ((Loc.new w [.string m0, .int .i64 m1, .string m2] 27).alloc (.cells #[.string ⟨#[]⟩, .int .i64 0, .string ⟨#[]⟩] 27)).kept k1
  have Z1 := (Loc.new (w.alloc (.cells #[.string m0, .int .i64 m1, .string m2] 27)) [.string ⟨#[]⟩, .int .i64 0, .string ⟨#[]⟩] 27).kept k1
  simp only [World.size_alloc] at Z1
  have K1 := K0.trans k1
  have hz1 := Z1.lt
  have hz0 := L1.lt
  have hl2 : d2.length ≤ 1048576 := (hcs.out _ (List.mem_of_getElem? hd)).2
  dsimp only at hb
  clear h2 k1 K0 HF
  (try dsimp only)
  have hbt := (sec_beats hS hd).1
  dsimp only at hbt
  by_cases hq1 : m1 + 1 = d1
  · have HT : Hid (nextM l (m0, m1, m2) = (d3, 0, m2)) := by show _ = _; unfold nextM; rw [hsd, if_pos hq1]
    have e1 : (m1 + 1 == d1) = true := beq_iff_eq.2 hq1
    have HQ1 : Hid (m1 + 1 = d1) := hq1
    clear hq1
    have A0 := L1
    have N0 := Z1
    have a0 := A0.cell 1 rfl
    have af0 := A0.frozen 1
    have A1 := A0.set 1 (.int .i64 (m1 + 1))
    simp only [List.set_cons_zero, List.set_cons_succ] at A1
    have N1 := N0.other (b' := w.heap.size) (j := 1) (by omega) (.int .i64 (m1 + 1))
    have b1 := A1.cell 1 rfl
    have a1 := A1.cell 0 rfl
    have af1 := A1.frozen 0
    have A2 := A1.set 0 (.string d3)
    simp only [List.set_cons_zero] at A2
    have N2 := N1.other (b' := w.heap.size) (j := 0) (by omega) (.string d3)
    have a2 := A2.cell 1 rfl
    have af2 := A2.frozen 1
    have A3 := A2.set 1 (.int .i64 0)
    simp only [List.set_cons_zero, List.set_cons_succ] at A3
    have N3 := N2.other (b' := w.heap.size) (j := 1) (by omega) (.int .i64 0)
    have r0 := A3.cell 0 rfl
    have r1 := A3.cell 1 rfl
    have r2 := A3.cell 2 rfl
    have U0 := N3
    have u0 := U0.cell 0 rfl
    have uf0 := U0.frozen 0
    have U1 := U0.set 0 (.string d3)
    simp only [List.set_cons_zero] at U1
    have u1 := U1.cell 1 rfl
    have uf1 := U1.frozen 1
    have U2 := U1.set 1 (.int .i64 0)
    simp only [List.set_cons_zero, List.set_cons_succ] at U2
    have u2 := U2.cell 2 rfl
    have uf2 := U2.frozen 2
    have U3 := U2.set 2 (.string m2)
    simp only [List.set_cons_zero, List.set_cons_succ] at U3
    have uv0 := U3.cell 0 rfl
    have uv1 := U3.cell 1 rfl
    have uv2 := U3.cell 2 rfl
    have HK1 : Hid (Kept w w1) := K1
    clear U0 U1 U2 U3 Z1 L1 K1 A0 N0 A1 N1 A2 N2 A3 N3
    repeat (first | go_values | go_skip | go_guarded | go_step | go_upon)
    refine bodyPost_ret (v := .agg #[.string d3, .int .i64 0, .string m2]) (by simp [results, Tryd.results26, go_sem, *]) rfl ?_
    exact ⟨by rw [HT.out], by (repeat (first | with_reducible exact HK1.out | with_reducible apply But.alloc | (with_reducible refine But.setNew ?_ (by simp) _)))⟩
  · have HT : Hid (nextM l (m0, m1, m2) = (m0, m1 + 1, m2)) := by show _ = _; unfold nextM; rw [hsd, if_neg hq1]
    have e1 : (m1 + 1 == d1) = false := beq_eq_false_iff_ne.2 hq1
    have A0 := L1
    have N0 := Z1
    have a0 := A0.cell 1 rfl
    have af0 := A0.frozen 1
    have A1 := A0.set 1 (.int .i64 (m1 + 1))
    simp only [List.set_cons_zero, List.set_cons_succ] at A1
    have N1 := N0.other (b' := w.heap.size) (j := 1) (by omega) (.int .i64 (m1 + 1))
    have b1 := A1.cell 1 rfl
    have r0 := A1.cell 0 rfl
    have r1 := A1.cell 1 rfl
    have r2 := A1.cell 2 rfl
    have U0 := N1
    have u0 := U0.cell 0 rfl
    have uf0 := U0.frozen 0
    have U1 := U0.set 0 (.string m0)
    simp only [List.set_cons_zero] at U1
    have u1 := U1.cell 1 rfl
    have uf1 := U1.frozen 1
    have U2 := U1.set 1 (.int .i64 (m1 + 1))
    simp only [List.set_cons_zero, List.set_cons_succ] at U2
    have u2 := U2.cell 2 rfl
    have uf2 := U2.frozen 2
    have U3 := U2.set 2 (.string m2)
    simp only [List.set_cons_zero, List.set_cons_succ] at U3
    have uv0 := U3.cell 0 rfl
    have uv1 := U3.cell 1 rfl
    have uv2 := U3.cell 2 rfl
    have HK1 : Hid (Kept w w1) := K1
    clear U0 U1 U2 U3 Z1 L1 K1 A0 N0 A1 N1
    repeat (first | go_values | go_skip | go_guarded | go_step | go_upon)
    refine bodyPost_ret (v := .agg #[.string m0, .int .i64 (m1 + 1), .string m2]) (by simp [results, Tryd.results26, go_sem, *]) rfl ?_
    exact ⟨by rw [HT.out], by (repeat (first | with_reducible exact HK1.out | with_reducible apply But.alloc | (with_reducible refine But.setNew ?_ (by simp) _)))⟩

end Go.Proofs.YtapfafibhjpkdaaDoor
