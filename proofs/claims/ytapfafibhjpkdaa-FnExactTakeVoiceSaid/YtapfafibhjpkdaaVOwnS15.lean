/-
  A voice copied in the specification.
-/
import Derived.Test.YtapfafibhjpkdaaVApp15
namespace Go.Proofs.Ytapfafibhjpkdaa
open Go.ChangeShapes Go.WideShapes Go.ChangeAt Go.RowKit

set_option maxRecDepth 100000
set_option linter.unusedVariables false
theorem own_newA (w : World) (lo g : Nat) (t : TypeId) (hg : g = w.heap.size) (h : lo ≤ w.heap.size) : (w.alloc (.cells #[] t)).ownsRow lo t 1 (.slice (some ⟨g, 0, none⟩) 0 0) 0 [] := by
  subst hg
  exact ⟨rfl, Or.inr ⟨w.heap.size, 0, #[], rfl, h, heap_alloc_new w _, Nat.le_refl _, Nat.zero_le _, rfl, rfl⟩⟩

set_option maxHeartbeats 4000000 in
theorem sownV (ao : Option Addr) (cap : Nat) (l : List Int) (a : Int) (lp : Bool) (lf rt rk : Int) (w : World) (hv : NumAt w (.slice ao l.length cap) l) (hl : l.length ≤ 1048576) :
    Calls Try.prog 46 #[.agg #[.slice ao l.length cap, .int .i64 a, .bool lp, .int .i64 lf, .int .i64 rt, .int .i64 rk]] w fun e w' => ∃ ao' cap', e = .returned (.agg #[.slice ao' l.length cap', .int .i64 a, .bool lp, .int .i64 lf, .int .i64 rt, .int .i64 rk]) ∧ NumO w' w.heap.size w'.heap.size (.slice ao' l.length cap') l ∧ Kept w w' := by
  have K0 : Kept w ((w.alloc (.cells #[.slice ao l.length cap, .int .i64 a, .bool lp, .int .i64 lf, .int .i64 rt, .int .i64 rk] 27)).alloc (.cells #[.slice none 0 0, .int .i64 0, .bool false, .int .i64 0, .int .i64 0, .int .i64 0] 27)) := ((But.refl _ _ _).alloc _).alloc _
  have L0 := (Loc.new w [.slice ao l.length cap, .int .i64 a, .bool lp, .int .i64 lf, .int .i64 rt, .int .i64 rk] 27).alloc (.cells #[.slice none 0 0, .int .i64 0, .bool false, .int .i64 0, .int .i64 0, .int .i64 0] 27)
  have Z0 := Loc.new (w.alloc (.cells #[.slice ao l.length cap, .int .i64 a, .bool lp, .int .i64 lf, .int .i64 rt, .int .i64 rk] 27)) [.slice none 0 0, .int .i64 0, .bool false, .int .i64 0, .int .i64 0, .int .i64 0] 27
  simp only [World.size_alloc] at Z0
  go_enter Try.func46, Try.ntmps46
  obtain ⟨i0, hi0, hz0, hz1, hz2⟩ := info_parts info_num
  have hcl : ∀ W : World, Kept W (W.alloc (.cells #[] 3)) := fun W => (But.refl _ _ _).alloc _
  repeat (first | (at_builtin; refine forgetL (fun w' => w' = _) rfl ?_) | go_values | go_skip | go_guarded | go_step | go_upon)
  intro W7 hW7
  subst hW7
  refine wpList_append_any _ rfl _ _ 22 rfl (w.heap.size + 2) 3 i0 (.int .i64 0) 1 8 Try.underlying22 hi0 hz0 hz1 hz2 rfl (by decide) (.slice (some ⟨w.heap.size + 1 + 1, 0, none⟩) 0 0) 0 [] rfl (own_newA ((w.alloc (.cells #[.slice ao l.length cap, .int .i64 a, .bool lp, .int .i64 lf, .int .i64 rt, .int .i64 rk] 27)).alloc (.cells #[.slice none 0 0, .int .i64 0, .bool false, .int .i64 0, .int .i64 0, .int .i64 0] 27)) (w.heap.size + 2) (w.heap.size + 1 + 1) 3 (by simp only [World.size_alloc]) (by simp only [World.size_alloc]; omega)) ao l.length cap (l.flatMap numC) rfl (flat_len 1 numC numC_len l) (row_src (hv.kept (K0.alloc _))) (ones l) (by unfold maxLen; omega) (by omega) (by simp) ?_
  intro v' w2 hown hgrow
  obtain ⟨ao5, cap5, hf5, _⟩ := own_form hown
  rw [Nat.zero_add] at hf5
  subst hf5
  have L2 := (L0.alloc (.cells #[] 3)).grown hgrow (by simp [Value.ownBlock]; try omega)
  have N0 := (Z0.alloc (.cells #[] 3)).grown hgrow (by simp [Value.ownBlock]; try omega)
  have K2 : Hid (Kept w w2) := (K0.alloc (.cells #[] 3)).grown hgrow (by intro x hx; simp [Value.ownBlock] at hx; omega)
  have hs2 := hgrow.size
  simp only [World.size_alloc] at hs2
  have HO : Hid (NumO w2 (w.heap.size + 2) w2.heap.size (.slice ao5 l.length cap5) l) := by
    have ho := hown
    rw [Nat.zero_add, List.nil_append] at ho
    exact RowO.top ho
  clear hgrow hown
  dsimp only
  have l0 := L2.cell 0 rfl
  have l0f := L2.frozen 0
  have L3 := L2.set 0 (.slice ao5 l.length cap5)
  simp only [List.set_cons_zero] at L3
  have r0 := L3.cell 0 rfl
  have r1 := L3.cell 1 rfl
  have r2 := L3.cell 2 rfl
  have r3 := L3.cell 3 rfl
  have r4 := L3.cell 4 rfl
  have r5 := L3.cell 5 rfl
  have V0 := N0.other (b' := w.heap.size) (j := 0) (by omega) (.slice ao5 l.length cap5)
  have u0 := V0.cell 0 rfl
  have uf0 := V0.frozen 0
  have V1 := V0.set 0 (.slice ao5 l.length cap5)
  simp only [List.set_cons_zero] at V1
  have u1 := V1.cell 1 rfl
  have uf1 := V1.frozen 1
  have V2 := V1.set 1 (.int .i64 a)
  simp only [List.set_cons_zero, List.set_cons_succ] at V2
  have u2 := V2.cell 2 rfl
  have uf2 := V2.frozen 2
  have V3 := V2.set 2 (.bool lp)
  simp only [List.set_cons_zero, List.set_cons_succ] at V3
  have u3 := V3.cell 3 rfl
  have uf3 := V3.frozen 3
  have V4 := V3.set 3 (.int .i64 lf)
  simp only [List.set_cons_zero, List.set_cons_succ] at V4
  have u4 := V4.cell 4 rfl
  have uf4 := V4.frozen 4
  have V5 := V4.set 4 (.int .i64 rt)
  simp only [List.set_cons_zero, List.set_cons_succ] at V5
  have u5 := V5.cell 5 rfl
  have uf5 := V5.frozen 5
  have V6 := V5.set 5 (.int .i64 rk)
  simp only [List.set_cons_zero, List.set_cons_succ] at V6
  have uv0 := V6.cell 0 rfl
  have uv1 := V6.cell 1 rfl
  have uv2 := V6.cell 2 rfl
  have uv3 := V6.cell 3 rfl
  have uv4 := V6.cell 4 rfl
  have uv5 := V6.cell 5 rfl
  clear V0 V1 V2 V3 V4 V5 V6 L0 Z0 L2 L3 N0 K0
  repeat (first | go_values | go_skip | go_guarded | go_step | go_upon)
  refine bodyPost_ret (v := .agg #[.slice ao5 l.length cap5, .int .i64 a, .bool lp, .int .i64 lf, .int .i64 rt, .int .i64 rk]) (by simp [results, Try.results46, go_sem, *]) rfl ?_
  have B : But w.heap.size (w.heap.size + 2) w2 (((((((w2.setCell ⟨w.heap.size, 0, none⟩ (.slice ao5 l.length cap5)).setCell ⟨w.heap.size + 1, 0, none⟩ (.slice ao5 l.length cap5)).setCell ⟨w.heap.size + 1, 1, none⟩ (.int .i64 a)).setCell ⟨w.heap.size + 1, 2, none⟩ (.bool lp)).setCell ⟨w.heap.size + 1, 3, none⟩ (.int .i64 lf)).setCell ⟨w.heap.size + 1, 4, none⟩ (.int .i64 rt)).setCell ⟨w.heap.size + 1, 5, none⟩ (.int .i64 rk)) := (((((((But.refl _ _ _).setCell (by simp; try omega) (by simp; try omega) _).setCell (by simp; try omega) (by simp; try omega) _).setCell (by simp; try omega) (by simp; try omega) _).setCell (by simp; try omega) (by simp; try omega) _).setCell (by simp; try omega) (by simp; try omega) _).setCell (by simp; try omega) (by simp; try omega) _).setCell (by simp; try omega) (by simp; try omega) _
  exact ⟨ao5, cap5, rfl, ((HO.out.but B (by omega)).mono (by omega) (Nat.le_refl _)).low, K2.out.onto B (Nat.le_refl _)⟩

end Go.Proofs.Ytapfafibhjpkdaa
