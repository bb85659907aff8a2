/-
  The open places, in the program.
-/
import Derived.Test.YtopakblckajdmaaFillM14
namespace Go.Proofs.Ytopakblckajdmaa
open Go.ChangeShapes Go.WideShapes Go.ChangeAt Go.RowKit
set_option maxRecDepth 100000
set_option linter.unusedVariables false

set_option maxHeartbeats 8000000 in
theorem iopen (fv : Value) (f : FieldD) (s : Int) (w : World) (hf : FieldAt w fv f) (hg : FieldP s f) (hlen : f.2.2.length ≤ 36) :
    Calls Try.prog 47 #[fv] w fun e w' => ∃ v', e = .returned v' ∧ NumO w' w.heap.size w'.heap.size v' (openL f.2.2) ∧ Kept w w' := by
  obtain ⟨ao, cap, hfm⟩ := hf.form
  subst hfm
  obtain ⟨i0, hi0, hz0, hz1, hz2⟩ := info_parts info_num
  go_enter Try.func47, Try.ntmps47
  go_upto_region 1 with fail
  obtain ⟨W, hW⟩ : ∃ x, x = w.alloc (.cells #[.int .i64 f.1, .int .i64 f.2.1, .slice ao f.2.2.length cap] 28) := ⟨_, rfl⟩
  have kz : Kept w W := by rw [hW]; exact (But.refl _ _ _).alloc _
  have L0 : Loc W w.heap.size [.int .i64 f.1, .int .i64 f.2.1, .slice ao f.2.2.length cap] := by rw [hW]; exact Loc.new _ _ _
  rw [← hW]
  clear hW
  have HLR : Hid (NumAt W (.slice ao f.2.2.length cap) f.2.2) := (hf.kept kz).row
  have HTB : Hid (TilesP s f.2.2) := hg.2.2.2
  have p2 := L0.cell 2 rfl
  clear hf hg
  repeat (first | go_values | go_skip | go_guarded | go_step | go_upon)
  clear p2
  go_loopw [3, 9] (fun x i wr => ∃ (k : Nat) (ao' : Option Addr) (c' m : Nat), k ≤ f.2.2.length ∧ i = .int .i64 k ∧ Hid (m = (cutL (openB f.2.2) k).length) ∧ x = .slice ao' m c' ∧ Hid (wr.ownsRow W.heap.size 3 1 (.slice ao' m c') m ((cutL (openB f.2.2) k).flatMap numC)) ∧ Hid (Kept W wr)) (fun _ i _ => f.2.2.length - (intOf i).toNat)
  case atStart => exact ⟨0, none, 0, 0, by omega, rfl, rfl, rfl, World.ownsRow_nil _ _ _ _, But.refl _ _ _⟩
  case round =>
    obtain ⟨k, ao', c', m, hk, rfl, HM, rfl, HO, HK⟩ := hrel
    by_cases hlt : k < f.2.2.length
    · obtain ⟨p, hp⟩ : ∃ p : Int, f.2.2[k]? = some p := ⟨_, List.getElem?_eq_getElem hlt⟩
      obtain ⟨b, o, cap1, ee, c0⟩ := num_get (HLR.out.kept HK.out) hp
      cases ee
      (try simp only [Nat.zero_add] at c0)
      have hgd : openB f.2.2 k = decide (p = -1) := by unfold openB; rw [List.getD_eq_getElem?_getD, hp]; rfl
      have hpb := HTB.out k hlt p hp
      have hml := cutL_len (openB f.2.2) k
      rw [← HM.out] at hml
      have hwz := HK.out.size
      have HGD : Hid (openB f.2.2 k = decide (p = -1)) := hgd
      clear hp hgd
      by_cases hp1 : p = -1
      · have d1 : (p == -1) = true := by simpa using hp1
        have HP : Hid (openB f.2.2 k = true) := by show openB f.2.2 k = true; rw [HGD.out]; exact decide_eq_true hp1
        clear hp1
        repeat (first | (at_builtin; refine forgetL (fun W => W = wr.alloc (.cells #[.int .i64 (k : Int)] 3)) rfl ?_) | go_values | go_skip | go_guarded | go_step | go_upon)
        intro WA hWA
        rw [hWA]
        clear hWA WA
        refine wpList_append_own _ rfl _ _ 26 rfl W.heap.size 3 i0 (.int .i64 0) 1 8 Try.underlying26 hi0 hz0 hz1 hz2 rfl (by decide) _ _ _ rfl (own_kept HO.out ((But.refl _ _ wr).alloc _)) ⟨wr.heap.size, 0, none⟩ 1 1 [.int .i64 (k : Int)] rfl rfl (news1 (Loc.new wr [.int .i64 (k : Int)] 3)) (by simp [Value.oneCell']) (by unfold maxLen; omega) (by omega) (by simp; omega) ?_
        intro v' w2 hown' hgrow _
        obtain ⟨ao5, cap5, hf5, _⟩ := own_form hown'
        subst hf5
        have HK5 : Hid (Kept W w2) := (HK.out.alloc _).grown hgrow (by intro x hx; have := own_lt HO.out hx; omega)
        have HW : Hid (w2.ownsRow W.heap.size 3 1 (.slice ao5 (m + 1) cap5) (m + 1) ((cutL (openB f.2.2) k).flatMap numC ++ [.int .i64 (k : Int)])) := hown'
        clear hgrow hown'
        repeat (first | go_values | go_skip | go_guarded | go_step | go_upon)
        refine ⟨⟨k + 1, ao5, cap5, m + 1, hlt, by go_num, ?_, rfl, ?_, HK5⟩, by simp [intOf]; omega⟩
        · show m + 1 = _
          rw [cutL_yes HP.out, HM.out]; simp
        · show World.ownsRow _ _ _ _ _ _ _
          rw [cutL_yes HP.out, List.flatMap_append]
          exact HW.out
      · have d1 : (p == -1) = false := by simpa using hp1
        have HP : Hid (openB f.2.2 k = false) := by show openB f.2.2 k = false; rw [HGD.out]; exact decide_eq_false hp1
        repeat (first | go_values | go_skip | go_guarded | go_step | go_upon)
        refine ⟨⟨k + 1, ao', c', m, hlt, by go_num, ?_, rfl, ?_, HK⟩, by simp [intOf]; omega⟩
        · show m = _
          rw [cutL_no HP.out]; exact HM.out
        · show World.ownsRow _ _ _ _ _ _ _
          rw [cutL_no HP.out]; exact HO.out
    · have hke : k = f.2.2.length := by omega
      subst hke
      repeat (first | go_values | go_skip | go_guarded | go_step | go_upon)
      go_returns
      refine ⟨_, rfl, ?_, kz.trans HK.out⟩
      have hm := HM.out
      have h2 : NumO wr W.heap.size wr.heap.size (.slice ao' m c') (cutL (openB f.2.2) f.2.2.length) := by unfold NumO; rw [← hm]; exact RowO.top HO.out
      have hz := kz.size
      exact NumO.mono h2 hz (Nat.le_refl _)

end Go.Proofs.Ytopakblckajdmaa
