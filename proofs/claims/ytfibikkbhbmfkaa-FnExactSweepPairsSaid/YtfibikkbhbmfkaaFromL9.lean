/-
  What fromTheLeft answers.
-/
import Derived.Test.YtfibikkbhbmfkaaFrom9
namespace Go.Proofs.Ytfibikkbhbmfkaa
open Go.ChangeShapes Go.WideShapes Go.ChangeAt Go.RowKit

set_option maxRecDepth 100000
set_option linter.unusedVariables false
set_option linter.unusedSimpArgs false

theorem nums_snoc (l : List Nat) (x : Nat) : nums (l ++ [x]) = nums l ++ [(x : Int)] := by simp [nums]
set_option maxHeartbeats 4000000 in
theorem fromTheLeft (ps : List ShapeD) (fao : Option Addr) (fcap : Nat) (w : World) (hv : FigAt w (.slice fao ps.length fcap) ps) (hg : shapesB ps = true) :
    Calls Try.prog 46 #[.slice fao ps.length fcap] w fun e w' => (∃ (v : Value) (ord : List Nat), e = .returned v ∧ ord.Perm (List.range ps.length) ∧ ord.Pairwise (fun a b => leftLt ps b a = false) ∧ NumO w' w.heap.size w'.heap.size v (nums ord)) ∧ Kept w w' := by
  have hn := shapes_len hg
  have HG : Hid (shapesB ps = true) := hg
  obtain ⟨W0, hW0⟩ : ∃ W, W = w.alloc (.cells #[.slice fao ps.length fcap] 66) := ⟨_, rfl⟩
  have K0 : Kept w W0 := by rw [hW0]; exact (But.refl _ _ _).alloc _
  have g1 : W0.cell? ⟨w.heap.size, 0, none⟩ = some (.slice fao ps.length fcap) := by rw [hW0]; simp [go_sem]
  have HW0 : Hid (W0 = _) := hW0
  have HV : Hid (FigAt W0 (.slice fao ps.length fcap) ps) := hv.kept K0
  clear hW0 hg hv
  obtain ⟨i0, hi0, hz0, hz1, hz2⟩ := info_parts infoNum
  go_enter Try.func46, Try.ntmps46
  repeat (first | go_values | go_skip | go_guarded | go_step | go_upon)
  rw [← HW0.out]
  clear HW0
  go_loopw [3, 7] (fun e i wr => ∃ (j : Nat) (ao' : Option Addr) (c' : Nat), j ≤ ps.length ∧ i = .int .i64 j ∧ e = .slice ao' j c' ∧ wr.ownsRow W0.heap.size 3 1 (.slice ao' j c') j ((nums (List.range j)).flatMap numC) ∧ Kept W0 wr) (fun e i _ => ps.length - (intOf i).toNat)
  case atStart => exact ⟨0, none, 0, by omega, rfl, rfl, World.ownsRow_nil _ _ _ _, But.refl _ _ _⟩
  case round =>
    obtain ⟨j, ao', c', hj, rfl, rfl, hown, hkp⟩ := hrel
    have HO : Hid (wr.ownsRow W0.heap.size 3 1 (.slice ao' j c') j ((nums (List.range j)).flatMap numC)) := hown
    have HK : Hid (Kept W0 wr) := hkp
    have hwz := hkp.size
    have y1 := Kept.cell hkp g1
    clear hown hkp
    by_cases hlt : j < ps.length
    · repeat (first
        | (at_builtin
           refine wpList_append_own _ rfl _ _ 72 rfl W0.heap.size 3 i0 (.int .i64 0) 1 8 Try.underlying72 hi0 hz0 hz1 hz2 rfl (by decide) _ _ _ rfl (own_kept HO.out ((But.refl _ _ wr).alloc _)) ⟨wr.heap.size, 0, none⟩ 1 1 [.int .i64 (j : Int)] rfl rfl (news1 (Loc.new wr [.int .i64 (j : Int)] 3)) (by simp [Value.oneCell']) (by unfold maxLen; omega) (by omega) (by simp; omega) ?_
           intro v' w2 hown' hgrow _
           obtain ⟨ao5, cap5, hf5, _⟩ := own_form hown'
           subst hf5
           have HK5 : Hid (Kept W0 w2) := (HK.out.alloc _).grown hgrow (by intro x hx; have := own_lt HO.out hx; omega)
           have HW : Hid (w2.ownsRow W0.heap.size 3 1 (.slice ao5 (j + 1) cap5) (j + 1) ((nums (List.range j)).flatMap numC ++ [.int .i64 (j : Int)])) := hown'
           clear hgrow hown')
        | go_values | go_skip | go_guarded | go_step | go_upon)
      refine ⟨⟨j + 1, ao5, cap5, hlt, by go_num, rfl, ?_, HK5.out⟩, by simp [intOf]; omega⟩
      rw [List.range_succ, nums_snoc, List.flatMap_append]
      simpa [numC] using HW.out
    · have hje : j = ps.length := by omega
      subst hje
      have HN : Hid (NumO wr W0.heap.size wr.heap.size (.slice ao' ps.length c') (nums (List.range ps.length))) := by
        show NumO _ _ _ _ _
        have := RowO.top HO.out
        unfold NumO
        rw [nums_len, List.length_range]
        exact this
      repeat (first | go_values | go_skip | go_guarded | go_step | go_upon)
      go_at_call 63
      refine (sortLefts ps fao fcap w.heap.size _ W0 wr HK.out HV.out g1 HG.out HN.out).mono ?_
      rintro e w3 ⟨rfl, ⟨ord, h1, h2, h3⟩, h4⟩
      have HR : Hid _ := (And.intro h1 (And.intro h2 h3))
      clear h1 h2 h3 y1
      dsimp only
      repeat (first | go_values | go_skip | go_guarded | go_step | go_upon)
      go_ret
      obtain ⟨h1, h2, h3⟩ := HR.out
      exact ⟨⟨_, ord, rfl, h1, h2, h3.mono K0.size (Nat.le_refl _)⟩, K0.trans h4⟩

end Go.Proofs.Ytfibikkbhbmfkaa
