/-
  The turned sum: the program.
-/
import Derived.Test.YtghmnhohdbombaaTurns16
import Derived.Test.YtghmnhohdbombaaClone16
namespace Go.Proofs.Ytghmnhohdbombaa
open Go.ChangeShapes Go.WideShapes Go.ChangeAt Go.RowKit Ieee

set_option maxRecDepth 100000
set_option linter.unusedVariables false
theorem tab_get (J : Nat) : ([.complex .f64 4607182418800017408 0, .complex .f64 4604544271217802189 13827916308072577997, .complex .f64 0 13830554455654793216, .complex .f64 13827916308072577997 13827916308072577997, .complex .f64 13830554455654793216 0, .complex .f64 13827916308072577997 4604544271217802189, .complex .f64 0 4607182418800017408, .complex .f64 4604544271217802189 4604544271217802189] : List Value)[J % 8]? = some (.complex .f64 (wT J).1 (wT J).2) := by
  obtain ⟨r, hr, hc⟩ := wT_cases J
  unfold wT
  rw [hr]
  rcases hc with rfl | rfl | rfl | rfl | rfl | rfl | rfl | rfl <;> rfl
theorem wrap_mul {k n : Nat} (hk : k ≤ 8) (hn : n ≤ 64) : IntKind.i64.wrap ((k : Int) * (n : Int)) = ((k * n : Nat) : Int) ∧ k * n ≤ 1000 := by
  have h : k * n ≤ 8 * 64 := Nat.mul_le_mul hk hn
  have e : (k : Int) * (n : Int) = ((k * n : Nat) : Int) := by simp
  rw [e, IntWalk.i64_in _ (by omega)]
  exact ⟨rfl, by omega⟩
set_option maxHeartbeats 8000000 in
theorem isum (xs : List Nat) (k : Nat) (v : Value) (w : World) (hv : FltAt w v xs) (hk : k ≤ 8) (hn : xs.length ≤ 64) :
    Calls Try.prog 56 #[v, .int .i64 (k : Int)] w fun e w' => ∃ re im, e = .returned (.complex .f64 re im) ∧ nrm re = (accT xs k xs.length).1 ∧ nrm im = (accT xs k xs.length).2 ∧ re < 18446744073709551616 ∧ im < 18446744073709551616 ∧ Kept w w' := by
  obtain ⟨ao, cap, hsl⟩ := row_nil hv
  subst hsl
  have HV : Hid (FltAt w (.slice ao xs.length cap) xs) := hv
  clear hv
  go_enter Try.func56, Try.ntmps56
  repeat (first | go_values | go_skip | go_guarded | go_step | go_upon)
  go_at_call 78
  refine (iturns _).mono ?_
  rintro e u1 ⟨rfl, k1⟩
  dsimp only
  have HK1 : Hid (Kept w u1) := k1
  clear k1
  repeat (first | go_values | go_skip | go_guarded | go_step | go_upon)
  have HL0 : Hid (Loc (u1.alloc (.cells #[.complex .f64 4607182418800017408 0, .complex .f64 4604544271217802189 13827916308072577997, .complex .f64 0 13830554455654793216, .complex .f64 13827916308072577997 13827916308072577997, .complex .f64 13830554455654793216 0, .complex .f64 13827916308072577997 4604544271217802189, .complex .f64 0 4607182418800017408, .complex .f64 4604544271217802189 4604544271217802189] 109)) u1.heap.size [.complex .f64 4607182418800017408 0, .complex .f64 4604544271217802189 13827916308072577997, .complex .f64 0 13830554455654793216, .complex .f64 13827916308072577997 13827916308072577997, .complex .f64 13830554455654793216 0, .complex .f64 13827916308072577997 4604544271217802189, .complex .f64 0 4607182418800017408, .complex .f64 4604544271217802189 4604544271217802189]) := Loc.new u1 _ _
  go_loopw [6, 13] (fun s i wr => ∃ (n re im : Nat), n ≤ xs.length ∧ i = .int .i64 n ∧ s = .complex .f64 re im ∧ Hid (nrm re = (accT xs k n).1 ∧ nrm im = (accT xs k n).2 ∧ re < 18446744073709551616 ∧ im < 18446744073709551616) ∧ Hid (Loc wr u1.heap.size [.complex .f64 4607182418800017408 0, .complex .f64 4604544271217802189 13827916308072577997, .complex .f64 0 13830554455654793216, .complex .f64 13827916308072577997 13827916308072577997, .complex .f64 13830554455654793216 0, .complex .f64 13827916308072577997 4604544271217802189, .complex .f64 0 4607182418800017408, .complex .f64 4604544271217802189 4604544271217802189]) ∧ Hid (Kept w wr)) (fun s i _ => xs.length - (intOf i).toNat)
  case atStart => exact ⟨0, 0, 0, by omega, rfl, rfl, (⟨rfl, rfl, by omega, by omega⟩ : _ ∧ _ ∧ _ ∧ _), HL0, HK1.out.alloc _⟩
  case round =>
    obtain ⟨n, re, im, hnn, rfl, rfl, HR, HL, HKr⟩ := hrel
    by_cases hlt : n < xs.length
    · obtain ⟨x, hxk⟩ : ∃ x, xs[n]? = some x := ⟨_, List.getElem?_eq_getElem hlt⟩
      obtain ⟨b, o, cap', e, c0⟩ := flt_get (HV.out.kept HKr.out) hxk
      cases e
      have HX : Hid (xs[n]? = some x) := hxk
      clear hxk
      obtain ⟨hm, hJ⟩ := wrap_mul (k := k) (n := n) hk (by omega)
      obtain ⟨J, hJe⟩ : ∃ J, k * n = J := ⟨_, rfl⟩
      rw [hJe] at hm hJ
      have HJ : Hid (k * n = J) := hJe
      have hm2 : (k : Int) * (n : Int) = (J : Int) := by rw [← hJe]; simp
      clear hJe
      have t0 := HL.out.cell (J % 8) (tab_get J)
      have x1 : (0 : Int) ≤ (J : Int) % 8 := by omega
      have x2 : (J : Int) % 8 < 8 := by omega
      generalize hw : wT J = W9 at t0
      obtain ⟨wr9, wi9⟩ := W9
      have HW : Hid (wT J = (wr9, wi9)) := hw
      clear hw
      dsimp only at t0
      repeat (first | go_values | go_skip | go_guarded | go_step | go_upon)
      refine ⟨⟨n + 1, _, _, hlt, by go_num, rfl, ?_, ?_, HKr.out.drewN _⟩, by simp [intOf]; omega⟩
      · show nrm _ = (accT xs k (n + 1)).1 ∧ nrm _ = (accT xs k (n + 1)).2 ∧ _ ∧ _
        refine ⟨?_, ?_, fop_lt _ _ _ _, fop_lt _ _ _ _⟩
        · simp only [nrm_fop, accT, stepT, HJ.out, HW.out, HR.out.1, List.getD_eq_getElem?_getD, HX.out, Option.getD_some]
        · simp only [nrm_fop, accT, stepT, HJ.out, HW.out, HR.out.2.1, List.getD_eq_getElem?_getD, HX.out, Option.getD_some]
      · exact HL.out.kept ((But.refl _ _ _).drewN _)
    · have hke : n = xs.length := by omega
      subst hke
      repeat (first | go_values | go_skip | go_guarded | go_step | go_upon)
      go_ret
      exact ⟨_, _, rfl, HR.out.1, HR.out.2.1, HR.out.2.2.1, HR.out.2.2.2, HKr.out⟩

end Go.Proofs.Ytghmnhohdbombaa
