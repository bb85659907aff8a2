/-
  A voice copied.
-/
import Derived.Test.YtapfafibhjpkdaaVoice
import Derived.Deep.RegionHeld3
namespace Go.Proofs.Ytapfafibhjpkdaa
open Go.ChangeShapes Go.WideShapes Go.ChangeAt Go.RowKit

set_option maxHeartbeats 4000000 in
theorem toVoice (f0 : Value) (l : List NumD) (f1 : Int) (f2 : Bool) (f3 : Int) (f4 : Int) (f5 : Int) (w : World) (hv : NumAt w f0 l) (hl : l.length ≤ 1048576) :
    Calls Try.prog 11 #[.agg #[f0, .int .i64 f1, .bool f2, .int .i64 f3, .int .i64 f4, .int .i64 f5]] w fun e w' => ∃ v', e = .returned (.agg #[v', .int .i64 f1, .bool f2, .int .i64 f3, .int .i64 f4, .int .i64 f5]) ∧ NumO w' (w.heap.size + 1) w'.heap.size v' l ∧ Kept w w' := by
  obtain ⟨ao, cap, hsl⟩ := row_nil hv
  subst hsl
  go_enter Try.func11, Try.ntmps11
  repeat (first | go_values | go_skip | go_guarded | go_step | go_upon)
  go_at_call 41
  refine (toNumS l _ _ (hv.kept ((((But.refl _ _ _).alloc _).alloc _).alloc _)) hl).mono ?_
  rintro e w' ⟨v', rfl, ho, hk⟩
  obtain ⟨ao', cap', hf, _⟩ := own_form ho.1
  subst hf
  have K : Kept w w' := ((((But.refl _ _ _).alloc _).alloc _).alloc _).trans hk
  have L0 := ((((Loc.new _ [.slice ao l.length cap, .int .i64 f1, .bool f2, .int .i64 f3, .int .i64 f4, .int .i64 f5] 24).alloc _).alloc _).kept hk)
  have L1 := (((Loc.new _ [.slice none 0 0, .int .i64 0, .bool false, .int .i64 0, .int .i64 0, .int .i64 0] 27).alloc _).kept hk)
  have L2 := (Loc.new _ [.slice none 0 0, .int .i64 0, .bool false, .int .i64 0, .int .i64 0, .int .i64 0] 27).kept hk
  simp only [World.size_alloc] at L0 L1 L2 ho
  have ho : Hid (NumO w' (w.heap.size + 1 + 1 + 1) w'.heap.size (.slice ao' l.length cap') l) := ho
  have hksz := hk.size
  simp at hksz
  have K : Hid (Kept w w') := K
  have P0 := L0
  have M0 := L2
  have N0 := L1
  have p0 := P0.cell 0 rfl
  have m0 := M0.cell 0 rfl
  have mf0 := M0.frozen 0
  have P1 := P0.other (b' := w.heap.size + 1 + 1) (j := 0) (by omega) (.slice ao' l.length cap')
  have N1 := N0.other (b' := w.heap.size + 1 + 1) (j := 0) (by omega) (.slice ao' l.length cap')
  have M1 := M0.set 0 (.slice ao' l.length cap')
  simp only [List.set_cons_zero] at M1
  have p1 := P1.cell 1 rfl
  have m1 := M1.cell 1 rfl
  have mf1 := M1.frozen 1
  have P2 := P1.other (b' := w.heap.size + 1 + 1) (j := 1) (by omega) (.int .i64 f1)
  have N2 := N1.other (b' := w.heap.size + 1 + 1) (j := 1) (by omega) (.int .i64 f1)
  have M2 := M1.set 1 (.int .i64 f1)
  simp only [List.set_cons_zero, List.set_cons_succ] at M2
  have p2 := P2.cell 2 rfl
  have m2 := M2.cell 2 rfl
  have mf2 := M2.frozen 2
  have P3 := P2.other (b' := w.heap.size + 1 + 1) (j := 2) (by omega) (.bool f2)
  have N3 := N2.other (b' := w.heap.size + 1 + 1) (j := 2) (by omega) (.bool f2)
  have M3 := M2.set 2 (.bool f2)
  simp only [List.set_cons_zero, List.set_cons_succ] at M3
  have p3 := P3.cell 3 rfl
  have m3 := M3.cell 3 rfl
  have mf3 := M3.frozen 3
  have P4 := P3.other (b' := w.heap.size + 1 + 1) (j := 3) (by omega) (.int .i64 f3)
  have N4 := N3.other (b' := w.heap.size + 1 + 1) (j := 3) (by omega) (.int .i64 f3)
  have M4 := M3.set 3 (.int .i64 f3)
  simp only [List.set_cons_zero, List.set_cons_succ] at M4
  have p4 := P4.cell 4 rfl
  have m4 := M4.cell 4 rfl
  have mf4 := M4.frozen 4
  have P5 := P4.other (b' := w.heap.size + 1 + 1) (j := 4) (by omega) (.int .i64 f4)
  have N5 := N4.other (b' := w.heap.size + 1 + 1) (j := 4) (by omega) (.int .i64 f4)
  have M5 := M4.set 4 (.int .i64 f4)
  simp only [List.set_cons_zero, List.set_cons_succ] at M5
  have p5 := P5.cell 5 rfl
  have m5 := M5.cell 5 rfl
  have mf5 := M5.frozen 5
  have P6 := P5.other (b' := w.heap.size + 1 + 1) (j := 5) (by omega) (.int .i64 f5)
  have N6 := N5.other (b' := w.heap.size + 1 + 1) (j := 5) (by omega) (.int .i64 f5)
  have M6 := M5.set 5 (.int .i64 f5)
  simp only [List.set_cons_zero, List.set_cons_succ] at M6
  have q0 := M6.cell 0 rfl
  have q1 := M6.cell 1 rfl
  have q2 := M6.cell 2 rfl
  have q3 := M6.cell 3 rfl
  have q4 := M6.cell 4 rfl
  have q5 := M6.cell 5 rfl
  have U0 := N6
  have u0 := U0.cell 0 rfl
  have uf0 := U0.frozen 0
  have U1 := U0.set 0 (.slice ao' l.length cap')
  simp only [List.set_cons_zero] at U1
  have u1 := U1.cell 1 rfl
  have uf1 := U1.frozen 1
  have U2 := U1.set 1 (.int .i64 f1)
  simp only [List.set_cons_zero, List.set_cons_succ] at U2
  have u2 := U2.cell 2 rfl
  have uf2 := U2.frozen 2
  have U3 := U2.set 2 (.bool f2)
  simp only [List.set_cons_zero, List.set_cons_succ] at U3
  have u3 := U3.cell 3 rfl
  have uf3 := U3.frozen 3
  have U4 := U3.set 3 (.int .i64 f3)
  simp only [List.set_cons_zero, List.set_cons_succ] at U4
  have u4 := U4.cell 4 rfl
  have uf4 := U4.frozen 4
  have U5 := U4.set 4 (.int .i64 f4)
  simp only [List.set_cons_zero, List.set_cons_succ] at U5
  have u5 := U5.cell 5 rfl
  have uf5 := U5.frozen 5
  have U6 := U5.set 5 (.int .i64 f5)
  simp only [List.set_cons_zero, List.set_cons_succ] at U6
  have v0 := U6.cell 0 rfl
  have v1 := U6.cell 1 rfl
  have v2 := U6.cell 2 rfl
  have v3 := U6.cell 3 rfl
  have v4 := U6.cell 4 rfl
  have v5 := U6.cell 5 rfl
  clear P0 M0 N0 P1 M1 N1 P2 M2 N2 P3 M3 N3 P4 M4 N4 P5 M5 N5 P6 M6 N6 U0 U1 U2 U3 U4 U5 U6 L0 L1 L2 hk hv
  have B : But w.heap.size (w.heap.size + 3) w' ((((((((((((w'.setCell ⟨w.heap.size + 1 + 1, 0, none⟩ (.slice ao' l.length cap')).setCell ⟨w.heap.size + 1 + 1, 1, none⟩ (.int .i64 f1)).setCell ⟨w.heap.size + 1 + 1, 2, none⟩ (.bool f2)).setCell ⟨w.heap.size + 1 + 1, 3, none⟩ (.int .i64 f3)).setCell ⟨w.heap.size + 1 + 1, 4, none⟩ (.int .i64 f4)).setCell ⟨w.heap.size + 1 + 1, 5, none⟩ (.int .i64 f5)).setCell ⟨w.heap.size + 1, 0, none⟩ (.slice ao' l.length cap')).setCell ⟨w.heap.size + 1, 1, none⟩ (.int .i64 f1)).setCell ⟨w.heap.size + 1, 2, none⟩ (.bool f2)).setCell ⟨w.heap.size + 1, 3, none⟩ (.int .i64 f3)).setCell ⟨w.heap.size + 1, 4, none⟩ (.int .i64 f4)).setCell ⟨w.heap.size + 1, 5, none⟩ (.int .i64 f5)) := ((((((((((((But.refl _ _ _).setCell (by simp; try omega) (by simp; try omega) _).setCell (by simp; try omega) (by simp; try omega) _).setCell (by simp; try omega) (by simp; try omega) _).setCell (by simp; try omega) (by simp; try omega) _).setCell (by simp; try omega) (by simp; try omega) _).setCell (by simp; try omega) (by simp; try omega) _).setCell (by simp; try omega) (by simp; try omega) _).setCell (by simp; try omega) (by simp; try omega) _).setCell (by simp; try omega) (by simp; try omega) _).setCell (by simp; try omega) (by simp; try omega) _).setCell (by simp; try omega) (by simp; try omega) _).setCell (by simp; try omega) (by simp; try omega) _
  have HB : Hid (But w.heap.size (w.heap.size + 3) w' ((((((((((((w'.setCell ⟨w.heap.size + 1 + 1, 0, none⟩ (.slice ao' l.length cap')).setCell ⟨w.heap.size + 1 + 1, 1, none⟩ (.int .i64 f1)).setCell ⟨w.heap.size + 1 + 1, 2, none⟩ (.bool f2)).setCell ⟨w.heap.size + 1 + 1, 3, none⟩ (.int .i64 f3)).setCell ⟨w.heap.size + 1 + 1, 4, none⟩ (.int .i64 f4)).setCell ⟨w.heap.size + 1 + 1, 5, none⟩ (.int .i64 f5)).setCell ⟨w.heap.size + 1, 0, none⟩ (.slice ao' l.length cap')).setCell ⟨w.heap.size + 1, 1, none⟩ (.int .i64 f1)).setCell ⟨w.heap.size + 1, 2, none⟩ (.bool f2)).setCell ⟨w.heap.size + 1, 3, none⟩ (.int .i64 f3)).setCell ⟨w.heap.size + 1, 4, none⟩ (.int .i64 f4)).setCell ⟨w.heap.size + 1, 5, none⟩ (.int .i64 f5))) := B
  clear B
  dsimp only
  repeat (first | go_values | go_skip | go_guarded | go_step | go_upon)
  refine bodyPost_ret (v := .agg #[.slice ao' l.length cap', .int .i64 f1, .bool f2, .int .i64 f3, .int .i64 f4, .int .i64 f5]) (by simp [results, Try.results11, go_sem, *]) rfl ?_
  exact ⟨_, rfl, ((ho.out.but HB.out (by omega)).mono (by omega) HB.out.size).low, (K.out.onto HB.out (Nat.le_refl _))⟩

end Go.Proofs.Ytapfafibhjpkdaa
