/-
  What the cursor's real and tame answer: some float; it writes into its own block alone.
-/
import Derived.Test.YtghmnhohdbombaaCur
import Derived.Test.YtghmnhohdbombaaSt16
namespace Go.Proofs.Ytghmnhohdbombaa
open Go.ChangeShapes Go.WideShapes Go.ChangeAt Go.RowKit Ieee

set_option maxRecDepth 100000
set_option linter.unusedVariables false
theorem nanC (w : World) : Calls Try.prog 83 #[] w fun e w' => e = .returned (.float .f64 9221120237041090561) ∧ w' = w := by
  go_enter Try.func83, Try.ntmps83
  go_wp2
  go_ret
  exact ⟨rfl, rfl⟩
theorem infC (w : World) : Calls Try.prog 84 #[.int .i64 1] w fun e w' => e = .returned (.float .f64 9218868437227405312) ∧ w' = w := by
  go_enter Try.func84, Try.ntmps84
  go_wp2
  go_ret
  exact ⟨rfl, rfl⟩
theorem signC (w : World) : Calls Try.prog 85 #[.float .f64 0, .float .f64 13830554455654793216] w fun e w' => e = .returned (.float .f64 9223372036854775808) ∧ w' = w := by
  have key : (bits .or .u64 (bits .andNot .u64 0 9223372036854775808) (bits .and .u64 13830554455654793216 9223372036854775808)).toNat = 9223372036854775808 := by decide +kernel
  go_enter Try.func85, Try.ntmps85
  go_wp2
  go_ret
  exact ⟨by simp, rfl⟩
theorem flist_alloc (w : World) (xs : List Nat) : ∀ i, i < xs.length → (w.alloc (.cells (xs.map fun z => Value.float .f64 z).toArray 23)).cell? ⟨w.heap.size, i, none⟩ = some (.float .f64 (xs.getD i 0)) := by
  intro i hi
  have h : (w.alloc (.cells (xs.map fun z => Value.float .f64 z).toArray 23)).heap[w.heap.size]? = some (.cells (xs.map fun z => Value.float .f64 z).toArray 23) := heap_alloc_new w _
  unfold World.cell?
  rw [h]
  show (xs.map fun z => Value.float .f64 z).toArray[i]? = _
  rw [List.getElem?_toArray, List.getElem?_map, List.getD_eq_getElem?_getD, List.getElem?_eq_getElem hi]
  rfl
def rlA : List Nat := [0, 4607182418800017408, 13830554455654793216, 4602678819172646912, 4591870180066957722, 9094988921128908188, 18318360957983683996, 1, 9218868437227405311, 4715268810125344768, 3918770277926589793, 5183771782906367355]
def rlB : List Nat := [9221120237041090561, 9218868437227405312, 9223372036854775808]
def DrawnF (b : Nat) (K : Int) (w : World) (e : Ending) (w' : World) : Prop := ∃ r, e = .returned (.float .f64 r) ∧ r < 18446744073709551616 ∧ CurOk w' b K ∧ But b (b + 1) w w'
theorem ofInt_lt (n : Int) : floatOfInt .f64 n < 18446744073709551616 := by
  have := floatOfInt_wf .f64 n
  simpa [Lit.wf] using this
theorem nat_of (r : Int) (n : Nat) (h0 : 0 ≤ r) (h1 : r < n) : ∃ k : Nat, r = k ∧ k < n := ⟨r.toNat, by omega, by omega⟩
set_option maxHeartbeats 2000000 in
theorem real_ok (w : World) (b : Nat) (K : Int) (h : CurOk w b K) (hK : K ≤ 1152921504606840000) :
    Calls Try.prog 69 #[.pointer (some ⟨b, 0, none⟩)] w (DrawnF b (K + 20) w) := by
  have hu3 := Try.underlying3
  have hu25 := Try.underlying23
  go_enter Try.func69, Try.ntmps69
  go_wp2_with fail
  refine (pick_ok _ b K 6 h (by omega) (by omega)).mono ?_
  rintro e w1 ⟨r, rfl, hr, hC, hg⟩
  have hlt := hC.lt
  by_cases e0 : r = 0
  · subst e0
    go_wp2_with fail
    refine (pick_ok _ b (K + 2) 12 (hC.alloc _) (by omega) (by omega)).mono ?_
    rintro e w2 ⟨z, rfl, hz, hC2, hg2⟩
    obtain ⟨k, rfl, hk⟩ := nat_of z 12 hz.1 hz.2
    have hc := But.cell hg2 (flist_alloc w1 rlA k hk) (.inr (by show b + 1 ≤ w1.heap.size; omega))
    have hv : rlA.getD k 0 < 18446744073709551616 := by
      have : ∀ k, k < 12 → rlA.getD k 0 < 18446744073709551616 := by decide
      exact this k hk
    generalize rlA.getD k 0 = v at hc hv
    go_wp2
    go_ret
    exact ⟨v, rfl, hv, hC2.le (by omega), hg.trans (((But.refl _ _ _).alloc _).trans hg2)⟩
  have d0 : (r == 0) = false := beq_eq_false_iff_ne.2 e0
  by_cases e1 : r = 1
  · subst e1
    go_wp2_with fail
    refine (pick_ok _ b (K + 2) 2001 hC (by omega) (by omega)).mono ?_
    rintro e w2 ⟨z, rfl, hz, hC2, hg2⟩
    go_wp2
    go_ret
    exact ⟨_, rfl, fop_lt _ _ _ _, (hC2.le (by omega)).kept ((But.refl _ _ _).drewN _), hg.trans (hg2.drewN _)⟩
  have d1 : (r == 1) = false := beq_eq_false_iff_ne.2 e1
  by_cases e2 : r = 2
  · subst e2
    go_wp2_with fail
    refine (wide_ok _ b (K + 2) hC (by omega)).mono ?_
    rintro e w2 ⟨z, rfl, hz, hC2, hg2⟩
    have hz' : (IntKind.u64.wrap z).toNat < 18446744073709551616 := by have := wrap_lo z; have := wrap_hi z; omega
    generalize hv : (IntKind.u64.wrap z).toNat = v at hz'
    cases hgd : good v
    · go_wp2_with (go_at_call 48; refine (specGood _ hz' _).mono ?_; rw [hgd]; rintro e w' ⟨rfl, rfl⟩)
      go_ret
      exact ⟨_, rfl, by omega, hC2.le (by omega), hg.trans hg2⟩
    · go_wp2_with (go_at_call 48; refine (specGood _ hz' _).mono ?_; rw [hgd]; rintro e w' ⟨rfl, rfl⟩)
      go_ret
      exact ⟨v, rfl, hz', hC2.le (by omega), hg.trans hg2⟩
  have d2 : (r == 2) = false := beq_eq_false_iff_ne.2 e2
  clear e0 e1 e2
  go_wp2_with fail
  refine (one_ok _ b (K + 2) 40 hC (by omega) (by omega)).mono ?_
  rintro e w2 ⟨yes, rfl, hC2, hg2⟩
  have hlt2 := hC2.lt
  cases yes
  · go_wp2_with fail
    refine (pick_ok _ b (K + 4) 201 (hC2.le (by omega)) (by omega) (by omega)).mono ?_
    rintro e w3 ⟨z, rfl, hz, hC3, hg3⟩
    go_wp2
    go_ret
    exact ⟨_, rfl, ofInt_lt _, hC3.le (by omega), hg.trans (hg2.trans hg3)⟩
  · go_wp2_with (first | (go_at_call 83; refine (nanC _).mono ?_; rintro e w' ⟨rfl, rfl⟩) | (go_at_call 84; refine (infC _).mono ?_; rintro e w' ⟨rfl, rfl⟩) | (go_at_call 85; refine (signC _).mono ?_; rintro e w' ⟨rfl, rfl⟩))
    refine (pick_ok _ b (K + 4) 3 ((hC2.le (by omega)).alloc _) (by omega) (by omega)).mono ?_
    rintro e w3 ⟨z, rfl, hz, hC3, hg3⟩
    obtain ⟨k, rfl, hk⟩ := nat_of z 3 hz.1 hz.2
    have hc := But.cell hg3 (flist_alloc _ rlB k hk) (.inr (by show b + 1 ≤ w'.heap.size; omega))
    have hv : rlB.getD k 0 < 18446744073709551616 := by
      have : ∀ k, k < 3 → rlB.getD k 0 < 18446744073709551616 := by decide
      exact this k hk
    generalize rlB.getD k 0 = v at hc hv
    go_wp2
    go_ret
    exact ⟨v, rfl, hv, hC3.le (by omega), hg.trans (hg2.trans (((But.refl _ _ _).alloc _).trans hg3))⟩
theorem tame_ok (w : World) (b : Nat) (K : Int) (h : CurOk w b K) (hK : K ≤ 1152921504606830000) :
    Calls Try.prog 43 #[.pointer (some ⟨b, 0, none⟩)] w (DrawnF b (K + 30) w) := by
  have hu3 := Try.underlying3
  have hu25 := Try.underlying23
  go_enter Try.func43, Try.ntmps43
  go_wp2_with fail
  refine (one_ok _ b K 12 h (by omega) (by omega)).mono ?_
  rintro e w1 ⟨yes, rfl, hC, hg⟩
  cases yes
  · go_wp2_with fail
    refine (pick_ok _ b (K + 2) 65 hC (by omega) (by omega)).mono ?_
    rintro e w2 ⟨z, rfl, hz, hC2, hg2⟩
    go_wp2
    go_ret
    exact ⟨_, rfl, fop_lt _ _ _ _, (hC2.le (by omega)).kept ((But.refl _ _ _).drewN _), hg.trans (hg2.drewN _)⟩
  · go_wp2_with fail
    refine (real_ok _ b (K + 2) hC (by omega)).mono ?_
    rintro e w2 ⟨r, rfl, hr, hC2, hg2⟩
    go_wp2
    go_ret
    exact ⟨r, rfl, hr, hC2.le (by omega), hg.trans hg2⟩

end Go.Proofs.Ytghmnhohdbombaa
