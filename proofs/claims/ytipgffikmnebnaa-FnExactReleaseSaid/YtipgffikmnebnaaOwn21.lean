/-
  Stores copied.
-/
import Derived.Test.YtipgffikmnebnaaApp21
import Derived.Test.YtipgffikmnebnaaLeaf21
namespace Go.Proofs.Ytipgffikmnebnaa
open Go.ChangeShapes Go.WideShapes Go.ChangeAt Go.RowKit

set_option maxRecDepth 100000
set_option linter.unusedVariables false
set_option linter.unusedSimpArgs false

set_option maxHeartbeats 4000000 in
theorem icopy (c : StoreD) (v : Value) (w0 : World) (hv : StoreAt w0 v c) (hn : c.2.2.length ≤ 1048576) :
    Calls Try.prog 110 #[v] w0 fun e w' => ∃ v', e = .returned v' ∧ StoreO w' (w0.heap.size + 2) w'.heap.size v' c ∧ Kept w0 w' := by
  obtain ⟨ao, cap, hfm⟩ := hv.form
  subst hfm
  have hr := hv.row
  have L1 := (Loc.new w0 [.int .i64 c.1, .int .i64 c.2.1, .slice ao c.2.2.length cap] 33).alloc (.cells #[.int .i64 0, .int .i64 0, .slice none 0 0] 33)
  have L2 := Loc.new (w0.alloc (.cells #[.int .i64 c.1, .int .i64 c.2.1, .slice ao c.2.2.length cap] 33)) [.int .i64 0, .int .i64 0, .slice none 0 0] 33
  simp only [World.size_alloc] at L2
  have HL1 : Hid (Loc _ w0.heap.size [.int .i64 c.1, .int .i64 c.2.1, .slice ao c.2.2.length cap]) := L1
  have HL2 : Hid (Loc _ (w0.heap.size + 1) [.int .i64 0, .int .i64 0, .slice none 0 0]) := L2
  have HR0 : Hid (ResidentAt w0 (.slice ao c.2.2.length cap) c.2.2) := hr
  clear hr hv L1 L2
  have HE := empty_resident ((w0.alloc (.cells #[.int .i64 c.1, .int .i64 c.2.1, .slice ao c.2.2.length cap] 33)).alloc (.cells #[.int .i64 0, .int .i64 0, .slice none 0 0] 33))
  simp only [World.size_alloc] at HE
  have HEE : Hid (ResidentO _ (w0.heap.size + 1 + 1) (w0.heap.size + 1 + 1 + 1) (.slice (some ⟨w0.heap.size + 1 + 1, 0, none⟩) 0 0) []) := HE
  clear HE
  go_enter Try.func110, Try.ntmps110
  repeat (first | (at_builtin; refine forgetL (fun w' => w' = _) rfl ?_) | go_values | go_skip | go_guarded | go_step | go_upon)
  intro W7 hW7
  rw [hW7]
  clear hW7 W7
  have HK0 : Kept w0 ((w0.alloc (.cells #[.int .i64 c.1, .int .i64 c.2.1, .slice ao c.2.2.length cap] 33)).alloc (.cells #[.int .i64 0, .int .i64 0, .slice none 0 0] 33)) := (((But.refl _ _ _).alloc _).alloc _)
  have HRW := HR0.out.kept HK0
  have M1 := HL1.out
  have M2 := HL2.out
  have HK0 : Hid (Kept w0 _) := HK0
  refine app_resident rfl _ _ rfl (lo := w0.heap.size + 1 + 1) (ps := []) rfl (nil_resident _ (w0.heap.size + 1 + 1) (w0.heap.size + 1 + 1)) (ao := ao) (m := c.2.2.length) (c := cap) (qs := c.2.2) rfl HRW rfl (by simp; omega) (by simp) ?_
  intro v' w' hO hB
  rw [List.nil_append] at hO
  obtain ⟨ao9, cap9, hf9⟩ := hO.form
  subst hf9
  have K9 : Kept w0 w' := HK0.out.onto hB (by omega)
  have N1 := M1.but hB (by omega)
  have N2 := M2.but hB (by omega)
  have f0 := N1.cell 0 rfl
  have f1 := N1.cell 1 rfl
  have f2 := N1.cell 2 rfl
  have g2 := N1.frozen 2
  have e0 := N2.cell 0 rfl
  have e1 := N2.cell 1 rfl
  have e2 := N2.cell 2 rfl
  have p0 := N2.frozen 0
  have p1 := N2.frozen 1
  have p2 := N2.frozen 2
  have HO : Hid (ResidentO w' (w0.heap.size + 1 + 1) w'.heap.size (.slice ao9 c.2.2.length cap9) c.2.2) := hO
  have HK9 : Hid (Kept w0 w') := K9
  clear hO hB K9 N1 N2 M1 M2 HRW
  repeat (first | go_values | go_skip | go_guarded | go_step | go_upon)
  have B : But w0.heap.size (w0.heap.size + 2) w' ((((w'.setCell ⟨w0.heap.size, 2, none⟩ (.slice ao9 c.2.2.length cap9)).setCell ⟨w0.heap.size + 1, 0, none⟩ (.int .i64 c.1)).setCell ⟨w0.heap.size + 1, 1, none⟩ (.int .i64 c.2.1)).setCell ⟨w0.heap.size + 1, 2, none⟩ (.slice ao9 c.2.2.length cap9)) :=
    ((((But.refl _ _ _).setCell (by simp) (by simp) _).setCell (by simp) (by simp) _).setCell (by simp) (by simp) _).setCell (by simp) (by simp) _
  refine bodyPost_ret (v := .agg #[.int .i64 c.1, .int .i64 c.2.1, .slice ao9 c.2.2.length cap9]) (by simp [results, Try.results110, go_sem, *]) rfl ?_
  exact ⟨_, rfl, ⟨_, rfl, ((HO.out.but B (by omega)).mono (by omega) B.size).low⟩, HK9.out.onto B (by omega)⟩

set_option maxHeartbeats 4000000 in
theorem sown (c : StoreD) (v : Value) (w0 : World) (hv : StoreAt w0 v c) (hn : c.2.2.length ≤ 1048576) :
    Calls Try.prog 72 #[v] w0 fun e w' => ∃ v', e = .returned v' ∧ StoreO w' (w0.heap.size + 2) w'.heap.size v' c ∧ Kept w0 w' := by
  obtain ⟨ao, cap, hfm⟩ := hv.form
  subst hfm
  have hr := hv.row
  have L1 := (Loc.new w0 [.int .i64 c.1, .int .i64 c.2.1, .slice ao c.2.2.length cap] 33).alloc (.cells #[.int .i64 0, .int .i64 0, .slice none 0 0] 33)
  have L2 := Loc.new (w0.alloc (.cells #[.int .i64 c.1, .int .i64 c.2.1, .slice ao c.2.2.length cap] 33)) [.int .i64 0, .int .i64 0, .slice none 0 0] 33
  simp only [World.size_alloc] at L2
  have HL1 : Hid (Loc _ w0.heap.size [.int .i64 c.1, .int .i64 c.2.1, .slice ao c.2.2.length cap]) := L1
  have HL2 : Hid (Loc _ (w0.heap.size + 1) [.int .i64 0, .int .i64 0, .slice none 0 0]) := L2
  have HR0 : Hid (ResidentAt w0 (.slice ao c.2.2.length cap) c.2.2) := hr
  clear hr hv L1 L2
  have HE := empty_resident ((w0.alloc (.cells #[.int .i64 c.1, .int .i64 c.2.1, .slice ao c.2.2.length cap] 33)).alloc (.cells #[.int .i64 0, .int .i64 0, .slice none 0 0] 33))
  simp only [World.size_alloc] at HE
  have HEE : Hid (ResidentO _ (w0.heap.size + 1 + 1) (w0.heap.size + 1 + 1 + 1) (.slice (some ⟨w0.heap.size + 1 + 1, 0, none⟩) 0 0) []) := HE
  clear HE
  go_enter Try.func72, Try.ntmps72
  repeat (first | (at_builtin; refine forgetL (fun w' => w' = _) rfl ?_) | go_values | go_skip | go_guarded | go_step | go_upon)
  intro W7 hW7
  rw [hW7]
  clear hW7 W7
  have HK0 : Kept w0 (((w0.alloc (.cells #[.int .i64 c.1, .int .i64 c.2.1, .slice ao c.2.2.length cap] 33)).alloc (.cells #[.int .i64 0, .int .i64 0, .slice none 0 0] 33)).alloc (.cells #[] 39)) := (((But.refl _ _ _).alloc _).alloc _).alloc _
  have HRW := HR0.out.kept HK0
  have M1 := HL1.out.alloc (.cells #[] 39)
  have M2 := HL2.out.alloc (.cells #[] 39)
  have HK0 : Hid (Kept w0 _) := HK0
  refine app_resident rfl _ _ rfl (lo := w0.heap.size + 1 + 1) (ps := []) rfl HEE.out (ao := ao) (m := c.2.2.length) (c := cap) (qs := c.2.2) rfl HRW rfl (by simp; omega) (by simp) ?_
  intro v' w' hO hB
  rw [List.nil_append] at hO
  obtain ⟨ao9, cap9, hf9⟩ := hO.form
  subst hf9
  have K9 : Kept w0 w' := HK0.out.onto hB (by omega)
  have N1 := M1.but hB (by omega)
  have N2 := M2.but hB (by omega)
  have f0 := N1.cell 0 rfl
  have f1 := N1.cell 1 rfl
  have f2 := N1.cell 2 rfl
  have g2 := N1.frozen 2
  have e0 := N2.cell 0 rfl
  have e1 := N2.cell 1 rfl
  have e2 := N2.cell 2 rfl
  have p0 := N2.frozen 0
  have p1 := N2.frozen 1
  have p2 := N2.frozen 2
  have HO : Hid (ResidentO w' (w0.heap.size + 1 + 1) w'.heap.size (.slice ao9 c.2.2.length cap9) c.2.2) := hO
  have HK9 : Hid (Kept w0 w') := K9
  clear hO hB K9 N1 N2 M1 M2 HRW
  repeat (first | go_values | go_skip | go_guarded | go_step | go_upon)
  have B : But w0.heap.size (w0.heap.size + 2) w' ((((w'.setCell ⟨w0.heap.size, 2, none⟩ (.slice ao9 c.2.2.length cap9)).setCell ⟨w0.heap.size + 1, 0, none⟩ (.int .i64 c.1)).setCell ⟨w0.heap.size + 1, 1, none⟩ (.int .i64 c.2.1)).setCell ⟨w0.heap.size + 1, 2, none⟩ (.slice ao9 c.2.2.length cap9)) :=
    ((((But.refl _ _ _).setCell (by simp) (by simp) _).setCell (by simp) (by simp) _).setCell (by simp) (by simp) _).setCell (by simp) (by simp) _
  refine bodyPost_ret (v := .agg #[.int .i64 c.1, .int .i64 c.2.1, .slice ao9 c.2.2.length cap9]) (by simp [results, Try.results72, go_sem, *]) rfl ?_
  exact ⟨_, rfl, ⟨_, rfl, ((HO.out.but B (by omega)).mono (by omega) B.size).low⟩, HK9.out.onto B (by omega)⟩

end Go.Proofs.Ytipgffikmnebnaa
