/-
  Fields copied.
-/
import Derived.Test.YtopakblckajdmaaMaskI14
import Derived.Test.YtopakblckajdmaaMaskS14
import Derived.Test.YtopakblckajdmaaClone14
namespace Go.Proofs.Ytopakblckajdmaa
open Go.ChangeShapes Go.WideShapes Go.ChangeAt Go.RowKit

set_option maxRecDepth 100000
set_option linter.unusedVariables false
set_option maxHeartbeats 8000000 in
theorem icopy (fv : Value) (f : FieldD) (w : World) (hf : FieldAt w fv f) (hn : f.2.2.length ≤ 1048576) :
    Calls Try.prog 45 #[fv] w fun e w' => ∃ v', e = .returned v' ∧ FieldO w' w.heap.size w'.heap.size v' f ∧ Kept w w' := by
  obtain ⟨ao, cap, hfm⟩ := hf.form
  subst hfm
  go_enter Try.func45, Try.ntmps45
  go_upto_region 1 with fail
  obtain ⟨W, hW⟩ : ∃ x, x = (w.alloc (.cells #[.int .i64 f.1, .int .i64 f.2.1, .slice ao f.2.2.length cap] 28)).alloc (.cells #[.int .i64 0, .int .i64 0, .slice none 0 0] 28) := ⟨_, rfl⟩
  have kz : Kept w W := by rw [hW]; exact ((But.refl _ _ _).alloc _).alloc _
  have L1 : Loc W w.heap.size [.int .i64 f.1, .int .i64 f.2.1, .slice ao f.2.2.length cap] := by rw [hW]; exact (Loc.new w [.int .i64 f.1, .int .i64 f.2.1, .slice ao f.2.2.length cap] 28).alloc _
  have L2 : Loc W (w.heap.size + 1) [.int .i64 0, .int .i64 0, .slice none 0 0] := by rw [hW]; have := Loc.new (w.alloc (.cells #[.int .i64 f.1, .int .i64 f.2.1, .slice ao f.2.2.length cap] 28)) [.int .i64 0, .int .i64 0, .slice none 0 0] 28; simpa using this
  rw [← hW]
  clear hW
  have q0 := L1.cell 0 rfl
  have q1 := L1.cell 1 rfl
  have q2 := L1.cell 2 rfl
  have ql := L1.lt
  have hr := (hf.kept kz).row
  go_region_held3 (fun w' => w'.cell? ⟨w.heap.size, 0, none⟩ = some (.int .i64 f.1) ∧ w'.cell? ⟨w.heap.size, 1, none⟩ = some (.int .i64 f.2.1) ∧ w'.cell? ⟨w.heap.size, 2, none⟩ = some (.slice ao f.2.2.length cap)) (simp [go_sem, *])
    (first | (go_at_call 72; refine (iclone f.2.2 _ _ (RowAt.kept hr (by (repeat (first | with_reducible exact But.refl _ _ _ | with_reducible apply But.drewN | with_reducible apply But.drew | with_reducible apply But.alloc | (with_reducible refine But.setNew ?_ (by simp; try omega) _))))) hn).mono ?_; rintro e y2 ⟨v2, rfl, o2, k2⟩; obtain ⟨g2, cap2, ef⟩ := o2.form; subst ef; have o2 : NumO y2 W.heap.size y2.heap.size (.slice g2 f.2.2.length cap2) f.2.2 := NumO.mono o2 (by simp) (Nat.le_refl _); have kw : Kept W y2 := (But.trans (by (repeat (first | with_reducible exact But.refl _ _ _ | with_reducible apply But.drewN | with_reducible apply But.drew | with_reducible apply But.alloc | (with_reducible refine But.setNew ?_ (by simp; try omega) _)))) k2); have q0y := Kept.cell kw q0; have q1y := Kept.cell kw q1; have q2y := Kept.cell kw q2; have M2 := L2.kept kw; have r0 := M2.cell 0 rfl; have r1 := M2.cell 1 rfl; have r2 := M2.cell 2 rfl; have rf0 := M2.frozen 0; have rf1 := M2.frozen 1; have rf2 := M2.frozen 2; have hlo : W.heap.size ≤ y2.heap.size := kw.size)
           | fail)
  repeat (first | go_values | go_skip | go_guarded | go_step | go_upon)
  have KY := kz.trans kw
  have hl2 := L2.lt
  have B : But (w.heap.size + 1) (w.heap.size + 2) y2 (((y2.setCell ⟨w.heap.size + 1, 0, none⟩ (.int .i64 f.1)).setCell ⟨w.heap.size + 1, 1, none⟩ (.int .i64 f.2.1)).setCell ⟨w.heap.size + 1, 2, none⟩ (.slice g2 f.2.2.length cap2)) :=
    (((But.refl _ _ _).setCell (by simp) (by simp) _).setCell (by simp) (by simp) _).setCell (by simp) (by simp) _
  refine bodyPost_ret (v := .agg #[.int .i64 f.1, .int .i64 f.2.1, .slice g2 f.2.2.length cap2]) (by simp [results, Try.results45, go_sem, *]) rfl ?_
  exact ⟨_, rfl, ⟨_, rfl, NumO.low ((o2.but B (by omega)).mono (lo' := w.heap.size) (hi' := y2.heap.size) (by omega) (Nat.le_refl _))⟩, KY.onto B (by omega)⟩

set_option maxHeartbeats 8000000 in
theorem sown (fv : Value) (f : FieldD) (w : World) (hf : FieldAt w fv f) (hn : f.2.2.length ≤ 1048576) :
    Calls Try.prog 49 #[fv] w fun e w' => ∃ v', e = .returned v' ∧ FieldO w' w.heap.size w'.heap.size v' f ∧ Kept w w' := by
  obtain ⟨ao, cap, hfm⟩ := hf.form
  subst hfm
  obtain ⟨i0, hi0, hz0, hz1, hz2⟩ := info_parts info_num
  go_enter Try.func49, Try.ntmps49
  go_upto_region 1 with fail
  obtain ⟨W, hW⟩ : ∃ x, x = (w.alloc (.cells #[.int .i64 f.1, .int .i64 f.2.1, .slice ao f.2.2.length cap] 28)).alloc (.cells #[.int .i64 0, .int .i64 0, .slice none 0 0] 28) := ⟨_, rfl⟩
  have kz : Kept w W := by rw [hW]; exact ((But.refl _ _ _).alloc _).alloc _
  have L1 : Loc W w.heap.size [.int .i64 f.1, .int .i64 f.2.1, .slice ao f.2.2.length cap] := by rw [hW]; exact (Loc.new w [.int .i64 f.1, .int .i64 f.2.1, .slice ao f.2.2.length cap] 28).alloc _
  have L2 : Loc W (w.heap.size + 1) [.int .i64 0, .int .i64 0, .slice none 0 0] := by rw [hW]; have := Loc.new (w.alloc (.cells #[.int .i64 f.1, .int .i64 f.2.1, .slice ao f.2.2.length cap] 28)) [.int .i64 0, .int .i64 0, .slice none 0 0] 28; simpa using this
  rw [← hW]
  clear hW
  have q0 := L1.cell 0 rfl
  have q1 := L1.cell 1 rfl
  have q2 := L1.cell 2 rfl
  have qf0 := L1.frozen 0
  have qf1 := L1.frozen 1
  have qf2 := L1.frozen 2
  have r0 := L2.cell 0 rfl
  have r1 := L2.cell 1 rfl
  have r2 := L2.cell 2 rfl
  have rf0 := L2.frozen 0
  have rf1 := L2.frozen 1
  have rf2 := L2.frozen 2
  have ql := L1.lt
  have rl := L2.lt
  have hr := (hf.kept kz).row
  have HF : Hid (NumAt W (.slice ao f.2.2.length cap) f.2.2) := hr
  clear hr hf
  repeat (first
    | (at_builtin
       refine wpList_append_any _ rfl _ _ 26 rfl W.heap.size 3 i0 (.int .i64 0) 1 8 Try.underlying26 hi0 hz0 hz1 hz2 rfl (by decide) _ _ _ rfl (own_new W 3) ao f.2.2.length cap (f.2.2.flatMap numC) rfl (flat_len 1 numC numC_len f.2.2) (row_src (HF.out.kept ((But.refl _ _ W).alloc _))) (ones f.2.2) (by unfold maxLen; omega) (by omega) (by simp) ?_
       intro v' w2 hown hgrow
       rw [Nat.zero_add, List.nil_append] at hown
       have HO : Hid (NumO w2 W.heap.size w2.heap.size v' f.2.2) := RowO.top hown
       obtain ⟨g2, cap2, ef⟩ := HO.out.form
       subst ef
       have k2 : Kept W w2 := ((But.refl _ _ W).alloc (.cells #[] 3)).grown hgrow (by intro x hx; cases hx; simp)
       have L1 := L1.kept k2
       have L2 := L2.kept k2
       clear q0 q1 q2 qf0 qf1 qf2 r0 r1 r2 rf0 rf1 rf2 hgrow hown
       have q0 := L1.cell 0 rfl
       have q1 := L1.cell 1 rfl
       have q2 := L1.cell 2 rfl
       have qf2 := L1.frozen 2
       have r0 := L2.cell 0 rfl
       have r1 := L2.cell 1 rfl
       have r2 := L2.cell 2 rfl
       have rf0 := L2.frozen 0
       have rf1 := L2.frozen 1
       have rf2 := L2.frozen 2)
    | go_values | go_skip | go_guarded | go_step | go_upon)
  obtain ⟨X, hX⟩ : ∃ X, X = w2.setCell ⟨w.heap.size, 2, none⟩ (.slice g2 f.2.2.length cap2) := ⟨_, rfl⟩
  have LX := L2.other (j := 2) (show w.heap.size + 1 ≠ w.heap.size by omega) (.slice g2 f.2.2.length cap2)
  have hl2 := L2.lt
  have hw2 : W.heap.size ≤ w2.heap.size := k2.size
  have OX := HO.out.but ((But.refl w.heap.size (w.heap.size + 1) w2).setCell (p := ⟨w.heap.size, 2, none⟩) (by simp) (by simp) (.slice g2 f.2.2.length cap2)) (by omega)
  have KY := (kz.trans k2).setNew (p := ⟨w.heap.size, 2, none⟩) (by simp) (.slice g2 f.2.2.length cap2)
  rw [← hX] at LX OX KY
  rw [← hX]
  clear hX q0 q1 q2 qf2 r0 r1 r2 rf0 rf1 rf2
  have r0 := LX.cell 0 rfl
  have r1 := LX.cell 1 rfl
  have r2 := LX.cell 2 rfl
  have B : But (w.heap.size + 1) (w.heap.size + 2) X (((X.setCell ⟨w.heap.size + 1, 0, none⟩ (.int .i64 f.1)).setCell ⟨w.heap.size + 1, 1, none⟩ (.int .i64 f.2.1)).setCell ⟨w.heap.size + 1, 2, none⟩ (.slice g2 f.2.2.length cap2)) :=
    (((But.refl _ _ _).setCell (by simp) (by simp) _).setCell (by simp) (by simp) _).setCell (by simp) (by simp) _
  refine bodyPost_ret (v := .agg #[.int .i64 f.1, .int .i64 f.2.1, .slice g2 f.2.2.length cap2]) (by simp [results, Try.results49, go_sem, *]) rfl ?_
  exact ⟨_, rfl, ⟨_, rfl, NumO.low ((OX.but B (by omega)).mono (lo' := w.heap.size) (hi' := w2.heap.size) (by omega) (Nat.le_refl _))⟩, KY.onto B (by omega)⟩

end Go.Proofs.Ytopakblckajdmaa
