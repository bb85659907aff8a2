/-
  What AskMusic answers in the specification.
-/
import Derived.Test.YtapfafibhjpkdaaSMus15
import Derived.Deep.CutBlock
import Derived.Deep.CutRange
import Derived.Deep.DeepCutAuto
namespace Go.Proofs.Ytapfafibhjpkdaa
open Go.ChangeShapes Go.WideShapes Go.ChangeAt Go.RowKit

set_option maxRecDepth 100000
set_option linter.unusedVariables false

set_option maxHeartbeats 8000000 in
theorem sask_bad (l : List SectionD) (ao : Option Addr) (cap : Nat) (m0 : ByteArray) (m1 : Int) (m2 nm : ByteArray) (w : World) (hv : SecsAt w (.slice ao l.length cap) l) (hcap : l.length ≤ cap ∧ cap ≤ 9223372036854775807) (hn : secsCost l ≤ 1048576) (hb : ¬ (MusicP l (m0, m1, m2) ∧ hasB l nm = true)) :
    Calls Try.prog 36 #[.slice ao l.length cap, .agg #[.string m0, .int .i64 m1, .string m2], .string nm] w fun e w' => e = .returned (.tuple #[.agg #[.string ⟨#[]⟩, .int .i64 0, .string ⟨#[]⟩], .bool false]) ∧ Kept w w' := by
  have K0 : Kept w ((w.alloc (.cells #[.string m0, .int .i64 m1, .string m2] 59)).alloc (.cells #[.string ⟨#[]⟩, .int .i64 0, .string ⟨#[]⟩] 59)) := ((But.refl _ _ _).alloc _).alloc _
  have hln : l.length ≤ 1048576 := by unfold secsCost at hn; omega
  obtain ⟨Y, hY⟩ : ∃ Y, ixI (fstS l nm) = Y := ⟨_, rfl⟩
  have eY : decide (Y < 0) = !hasB l nm := by rw [← hY]; exact ix_neg _
  cases q1 : dec (MusicP l (m0, m1, m2)) with
  | false =>
    clear eY
    go_enter Try.func36, Try.ntmps36
    repeat (first | go_values | go_skip | go_guarded | go_step | go_upon)
    go_at_call 31
    refine (smusic l ao cap m0 m1 m2 _ (hv.kept K0) hcap hn).mono ?_
    rintro e w1 ⟨rfl, k1⟩
    rw [q1]
    have K1 := K0.trans k1
    have L0 := ((Loc.new w [.string m0, .int .i64 m1, .string m2] 59).alloc (.cells #[.string ⟨#[]⟩, .int .i64 0, .string ⟨#[]⟩] 59)).kept k1
    have Z0 := (Loc.new (w.alloc (.cells #[.string m0, .int .i64 m1, .string m2] 59)) [.string ⟨#[]⟩, .int .i64 0, .string ⟨#[]⟩] 59).kept k1
    simp only [World.size_alloc] at Z0
    dsimp only
    have U0 := Z0
    have u0 := U0.cell 0 rfl
    have uf0 := U0.frozen 0
    have U1 := U0.set 0 (.string ⟨#[]⟩)
    simp only [List.set_cons_zero] at U1
    have u1 := U1.cell 1 rfl
    have uf1 := U1.frozen 1
    have U2 := U1.set 1 (.int .i64 0)
    simp only [List.set_cons_zero, List.set_cons_succ] at U2
    have u2 := U2.cell 2 rfl
    have uf2 := U2.frozen 2
    have U3 := U2.set 2 (.string ⟨#[]⟩)
    simp only [List.set_cons_zero, List.set_cons_succ] at U3
    have uv0 := U3.cell 0 rfl
    have uv1 := U3.cell 1 rfl
    have uv2 := U3.cell 2 rfl
    have HK : Hid (Kept w w1) := K1
    clear U0 U1 U2 U3 K0 k1 K1 L0 Z0
    repeat (first | go_values | go_skip | go_guarded | go_step | go_upon)
    refine bodyPost_ret (v := .tuple #[.agg #[.string ⟨#[]⟩, .int .i64 0, .string ⟨#[]⟩], .bool false]) (by simp [results, Try.results36, go_sem, *]) rfl ?_
    exact ⟨rfl, ((HK.out.setNew (by simp) _).setNew (by simp) _).setNew (by simp) _⟩
  | true =>
    have q2 : hasB l nm = false := Bool.eq_false_iff.2 fun h => hb ⟨of_dec q1, h⟩
    rw [q2] at eY
    simp only [Bool.not_false] at eY
    go_enter Try.func36, Try.ntmps36
    repeat (first | go_values | go_skip | go_guarded | go_step | go_upon)
    go_at_call 31
    refine (smusic l ao cap m0 m1 m2 _ (hv.kept K0) hcap hn).mono ?_
    rintro e w1 ⟨rfl, k1⟩
    rw [q1]
    have K1 := K0.trans k1
    have L0 := ((Loc.new w [.string m0, .int .i64 m1, .string m2] 59).alloc (.cells #[.string ⟨#[]⟩, .int .i64 0, .string ⟨#[]⟩] 59)).kept k1
    have Z0 := (Loc.new (w.alloc (.cells #[.string m0, .int .i64 m1, .string m2] 59)) [.string ⟨#[]⟩, .int .i64 0, .string ⟨#[]⟩] 59).kept k1
    simp only [World.size_alloc] at Z0
    dsimp only
    repeat (first | go_values | go_skip | go_guarded | go_step | go_upon)
    go_at_call 72
    refine (ssec l nm _ _ (hv.kept K1) hln).mono ?_
    rintro e w2 ⟨rfl, k2⟩
    rw [hY]
    have L2 := L0.kept k2
    have U0 := Z0.kept k2
    have K2 := K1.trans k2
    dsimp only
    clear k2 L2
    have u0 := U0.cell 0 rfl
    have uf0 := U0.frozen 0
    have U1 := U0.set 0 (.string ⟨#[]⟩)
    simp only [List.set_cons_zero] at U1
    have u1 := U1.cell 1 rfl
    have uf1 := U1.frozen 1
    have U2 := U1.set 1 (.int .i64 0)
    simp only [List.set_cons_zero, List.set_cons_succ] at U2
    have u2 := U2.cell 2 rfl
    have uf2 := U2.frozen 2
    have U3 := U2.set 2 (.string ⟨#[]⟩)
    simp only [List.set_cons_zero, List.set_cons_succ] at U3
    have uv0 := U3.cell 0 rfl
    have uv1 := U3.cell 1 rfl
    have uv2 := U3.cell 2 rfl
    have HK : Hid (Kept w w2) := K2
    clear U0 U1 U2 U3 K0 k1 K1 L0 Z0
    repeat (first | go_values | go_skip | go_guarded | go_step | go_upon)
    refine bodyPost_ret (v := .tuple #[.agg #[.string ⟨#[]⟩, .int .i64 0, .string ⟨#[]⟩], .bool false]) (by simp [results, Try.results36, go_sem, *]) rfl ?_
    exact ⟨rfl, ((HK.out.setNew (by simp) _).setNew (by simp) _).setNew (by simp) _⟩
set_option maxHeartbeats 8000000 in
theorem sask (l : List SectionD) (ao : Option Addr) (cap : Nat) (m0 : ByteArray) (m1 : Int) (m2 nm : ByteArray) (w : World) (hv : SecsAt w (.slice ao l.length cap) l) (hcap : l.length ≤ cap ∧ cap ≤ 9223372036854775807) (hn : secsCost l ≤ 1048576) (hm : MusicP l (m0, m1, m2)) (q2 : hasB l nm = true) :
    Calls Try.prog 36 #[.slice ao l.length cap, .agg #[.string m0, .int .i64 m1, .string m2], .string nm] w fun e w' => e = .returned (.tuple #[.agg #[.string m0, .int .i64 m1, .string nm], .bool true]) ∧ Kept w w' := by
    have K0 : Kept w ((w.alloc (.cells #[.string m0, .int .i64 m1, .string m2] 59)).alloc (.cells #[.string ⟨#[]⟩, .int .i64 0, .string ⟨#[]⟩] 59)) := ((But.refl _ _ _).alloc _).alloc _
    have hln : l.length ≤ 1048576 := by unfold secsCost at hn; omega
    obtain ⟨Y, hY⟩ : ∃ Y, ixI (fstS l nm) = Y := ⟨_, rfl⟩
    have eY : decide (Y < 0) = !hasB l nm := by rw [← hY]; exact ix_neg _
    have q1 := dec_yes hm
    rw [q2] at eY
    simp only [Bool.not_true] at eY
    go_enter Try.func36, Try.ntmps36
    repeat (first | go_values | go_skip | go_guarded | go_step | go_upon)
    go_at_call 31
    refine (smusic l ao cap m0 m1 m2 _ (hv.kept K0) hcap hn).mono ?_
    rintro e w1 ⟨rfl, k1⟩
    rw [q1]
    have K1 := K0.trans k1
    have L0 := ((Loc.new w [.string m0, .int .i64 m1, .string m2] 59).alloc (.cells #[.string ⟨#[]⟩, .int .i64 0, .string ⟨#[]⟩] 59)).kept k1
    have Z0 := (Loc.new (w.alloc (.cells #[.string m0, .int .i64 m1, .string m2] 59)) [.string ⟨#[]⟩, .int .i64 0, .string ⟨#[]⟩] 59).kept k1
    simp only [World.size_alloc] at Z0
    dsimp only
    repeat (first | go_values | go_skip | go_guarded | go_step | go_upon)
    go_at_call 72
    refine (ssec l nm _ _ (hv.kept K1) hln).mono ?_
    rintro e w2 ⟨rfl, k2⟩
    rw [hY]
    have L2 := L0.kept k2
    have U0 := Z0.kept k2
    have K2 := K1.trans k2
    dsimp only
    have l2 := L2.cell 2 rfl
    have l2f := L2.frozen 2
    have L3 := L2.set 2 (.string nm)
    simp only [List.set_cons_zero, List.set_cons_succ] at L3
    have r0 := L3.cell 0 rfl
    have r1 := L3.cell 1 rfl
    have r2 := L3.cell 2 rfl
    have V0 := U0.other (b' := w.heap.size) (j := 2) (by omega) (.string nm)
    have u0 := V0.cell 0 rfl
    have uf0 := V0.frozen 0
    have V1 := V0.set 0 (.string m0)
    simp only [List.set_cons_zero] at V1
    have u1 := V1.cell 1 rfl
    have uf1 := V1.frozen 1
    have V2 := V1.set 1 (.int .i64 m1)
    simp only [List.set_cons_zero, List.set_cons_succ] at V2
    have u2 := V2.cell 2 rfl
    have uf2 := V2.frozen 2
    have V3 := V2.set 2 (.string nm)
    simp only [List.set_cons_zero, List.set_cons_succ] at V3
    have uv0 := V3.cell 0 rfl
    have uv1 := V3.cell 1 rfl
    have uv2 := V3.cell 2 rfl
    have HK : Hid (Kept w w2) := K2
    clear V0 V1 V2 V3 K0 k1 K1 L0 Z0 k2 K2 L2 L3 U0
    repeat (first | go_values | go_skip | go_guarded | go_step | go_upon)
    refine bodyPost_ret (v := .tuple #[.agg #[.string m0, .int .i64 m1, .string nm], .bool true]) (by simp [results, Try.results36, go_sem, *]) rfl ?_
    exact ⟨rfl, (((HK.out.setNew (by simp) _).setNew (by simp) _).setNew (by simp) _).setNew (by simp) _⟩

end Go.Proofs.Ytapfafibhjpkdaa
