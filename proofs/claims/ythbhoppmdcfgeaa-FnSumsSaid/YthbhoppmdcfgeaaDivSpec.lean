/-
  What the specification's DivTurn answers; that turns are the same as themselves; how a turn is handed on.
-/
import Derived.Test.YthbhoppmdcfgeaaMulDiv
namespace Go.Proofs.Ythbhoppmdcfgeaa
open Go.ChangeShapes Go.WideShapes Go.ChangeAt Go.RowKit Ieee

theorem l2FiniteC (x : Nat) (h : x < 18446744073709551616) (w : World) : Calls Try.prog 41 #[.float .f64 x] w fun e w' => (e = .returned (.bool true) ∧ finO (nrm x) = true ∧ w' = w) ∨ (e = .returned (.bool false) ∧ finO (nrm x) = false ∧ w' = w) := by
  refine (l2Finite x h w).mono ?_
  rintro e w1 ⟨rfl, rfl⟩
  rw [finO_nrm]
  cases hf : fin x <;> simp
theorem l2PlainC (x : Nat) (w : World) : Calls Try.prog 42 #[.float .f64 x] w fun e w' => e = .returned (.float .f64 (plain x)) ∧ w' = w := l2Plain x w

set_option maxHeartbeats 2000000 in
theorem specDiv (a b c d : Nat) (ha : a < 18446744073709551616) (hb : b < 18446744073709551616) (hc : c < 18446744073709551616) (hd : d < 18446744073709551616) (w : World) :
    Calls Try.prog 31 #[turnA a b, turnA c d] w fun e w' => e = .returned (turnV (divM a b c d)) ∧ Grown w w' := by
  cases h1 : (good a && good b)
  · go_enter Try.func31, Try.ntmps31
    go_wp2_with (go_at_call 56; refine (l2Good a b ha hb _).mono ?_; rw [h1]; rintro e w1 ⟨rfl, rfl⟩)
    go_returns
    exact ⟨by simp [divM, h1], by go_grown⟩
  · cases h2 : (good c && good d)
    · go_enter Try.func31, Try.ntmps31
      go_wp2_with fail
      go_at_call 56; refine (l2Good a b ha hb _).mono ?_; rw [h1]; rintro e w1 ⟨rfl, rfl⟩
      go_wp2_with fail
      go_at_call 56; refine (l2Good c d hc hd _).mono ?_; rw [h2]; rintro e w1 ⟨rfl, rfl⟩
      go_wp2
      go_returns
      exact ⟨by simp [divM, h1, h2], by go_grown⟩
    · go_enter Try.func31, Try.ntmps31
      go_wp2_with fail
      go_at_call 56; refine (l2Good a b ha hb _).mono ?_; rw [h1]; rintro e w1 ⟨rfl, rfl⟩
      go_wp2_with fail
      go_at_call 56; refine (l2Good c d hc hd _).mono ?_; rw [h2]; rintro e w1 ⟨rfl, rfl⟩
      cases hz : zeroB (fop .add (((tok w).adv (nd .mul c c + nd .mul d d))) (fop .mul (tok w) c c) (fop .mul ((tok w).adv (nd .mul c c)) d d))
      · go_wp2_with fail
        go_at_call 41; refine (l2FiniteC _ (fop_lt _ _ _ _) _).mono ?_; rintro e w1 (⟨rfl, hf, rfl⟩ | ⟨rfl, hf, rfl⟩)
        · go_wp2_with fail
          go_at_call 41; refine (l2FiniteC _ (fop_lt _ _ _ _) _).mono ?_; rintro e w1 (⟨rfl, hX, rfl⟩ | ⟨rfl, hX, rfl⟩)
          · go_wp2_with fail
            go_at_call 41; refine (l2FiniteC _ (fop_lt _ _ _ _) _).mono ?_; rintro e w1 (⟨rfl, hY, rfl⟩ | ⟨rfl, hY, rfl⟩)
            · go_wp2_with fail
              go_at_call 57; refine (l2Turn _ _ (fop_lt _ _ _ _) (fop_lt _ _ _ _) _).mono ?_; rintro e w1 ⟨rfl, rfl⟩
              go_wp2
              go_returns
              refine ⟨?_, by repeat (first | with_reducible exact Grown.refl _ | with_reducible apply drewN_grown | with_reducible apply Grown.drew | with_reducible apply Grown.alloc)⟩
              rw [← zeroO_nrm] at hz
              simp only [nrm_fop] at hz hf
              have hz' : zeroO (divD c d) = false := hz
              have hf' : finO (divD c d) = true := hf
              simp only [turnM_nrm, nrm_fop, divM, h1, h2, hz', hf', Bool.and_self, if_true]
              rfl
            · go_wp2
              go_returns
              refine ⟨?_, by repeat (first | with_reducible exact Grown.refl _ | with_reducible apply drewN_grown | with_reducible apply Grown.drew | with_reducible apply Grown.alloc)⟩
              rw [← zeroO_nrm] at hz
              simp only [nrm_fop] at hz hf hY
              have hz' : zeroO (divD c d) = false := hz
              have hf' : finO (divD c d) = true := hf
              have hY' : finO (divY a b c d) = false := hY
              simp only [divM, h1, h2, hz', hf', Bool.and_self, if_true, turnO_bad _ _ (.inr (quo_fin _ _ hf' hz' hY'))]
              rfl
          · go_wp2
            go_returns
            refine ⟨?_, by repeat (first | with_reducible exact Grown.refl _ | with_reducible apply drewN_grown | with_reducible apply Grown.drew | with_reducible apply Grown.alloc)⟩
            rw [← zeroO_nrm] at hz
            simp only [nrm_fop] at hz hf hX
            have hz' : zeroO (divD c d) = false := hz
            have hf' : finO (divD c d) = true := hf
            have hX' : finO (divX a b c d) = false := hX
            simp only [divM, h1, h2, hz', hf', Bool.and_self, if_true, turnO_bad _ _ (.inl (quo_fin _ _ hf' hz' hX'))]
            rfl
        · go_wp2
          go_returns
          refine ⟨?_, by repeat (first | with_reducible exact Grown.refl _ | with_reducible apply drewN_grown | with_reducible apply Grown.drew | with_reducible apply Grown.alloc)⟩
          simp only [nrm_fop] at hf
          have hf' : finO (divD c d) = false := hf
          simp only [divM, h1, h2, hf', Bool.and_self, if_true, Bool.not_false, Bool.or_true]
      · go_wp2
        go_returns
        refine ⟨?_, by repeat (first | with_reducible exact Grown.refl _ | with_reducible apply drewN_grown | with_reducible apply Grown.drew | with_reducible apply Grown.alloc)⟩
        rw [← zeroO_nrm] at hz
        simp only [nrm_fop] at hz
        have hz' : zeroO (divD c d) = true := hz
        simp only [divM, h1, h2, hz', Bool.and_self, if_true, Bool.true_or]

theorem toTurn (a b : Nat) (w : World) : Calls Try.prog 29 #[turnA a b] w fun e w' => e = .returned (turnA a b) ∧ w' = ((w.alloc (.cells #[.float .f64 a, .float .f64 b] 47)).alloc (.cells #[.float .f64 a, .float .f64 b] 29)).alloc (.cells #[.float .f64 a, .float .f64 b] 29) := by
  go_enter Try.func29, Try.ntmps29
  go_wp2
  go_returns
  exact ⟨rfl, rfl⟩
theorem eqTurn (a b : Nat) (w : World) : Calls Try.prog 30 #[turnA a b, turnA a b] w fun e w' => e = .returned (.bool true) ∧ Grown w w' := by
  go_enter Try.func30, Try.ntmps30
  go_wp2_with (go_at_call 24; refine (sameFloat _ _ rfl _).mono ?_; rintro e w' ⟨rfl, rfl⟩)
  go_returns
  exact ⟨rfl, by go_grown⟩
/-- Two boxed turns are as they were, and their blocks are old ones. -/
theorem keep4 {h : Nat} {W w1 : World} {a b c d : Value} (hg : Grown W w1) (hW : h + 1 < W.heap.size) (c0 : W.cell? ⟨h, 0, none⟩ = some a) (c1 : W.cell? ⟨h, 1, none⟩ = some b) (c2 : W.cell? ⟨h + 1, 0, none⟩ = some c) (c3 : W.cell? ⟨h + 1, 1, none⟩ = some d) :
    w1.cell? ⟨h, 0, none⟩ = some a ∧ w1.cell? ⟨h, 1, none⟩ = some b ∧ w1.cell? ⟨h + 1, 0, none⟩ = some c ∧ w1.cell? ⟨h + 1, 1, none⟩ = some d ∧ h < w1.heap.size ∧ h + 1 < w1.heap.size := by
  have := hg.2.2
  exact ⟨(gcell hg _ _ (by omega)).trans c0, (gcell hg _ _ (by omega)).trans c1, (gcell hg _ _ hW).trans c2, (gcell hg _ _ hW).trans c3, by omega, by omega⟩
/-- Of a world only what is said of it is kept. -/
theorem forget {P : Program} {C : Code} {Q : Exit → Act → World → Prop} {a : Act} {W : World} (F : World → Prop) (hF : F W) (h : ∀ W', F W' → Code.wp P C Q a W') : Code.wp P C Q a W := h W hF
end Go.Proofs.Ythbhoppmdcfgeaa
