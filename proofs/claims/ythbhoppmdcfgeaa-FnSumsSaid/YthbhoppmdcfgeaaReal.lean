/-
  What the cursor's real answers: some float; it writes into its own block alone.
-/
import Derived.Test.YthbhoppmdcfgeaaCur
import Derived.Test.YthbhoppmdcfgeaaTo
namespace Go.Proofs.Ythbhoppmdcfgeaa
open Go.ChangeShapes Go.WideShapes Go.ChangeAt Go.RowKit Ieee

theorem nan66 (w : World) : Calls Try.prog 66 #[] w fun e w' => e = .returned (.float .f64 9221120237041090561) ∧ w' = w := by
  go_enter Try.func66, Try.ntmps66
  go_wp2
  go_ret
  exact ⟨rfl, rfl⟩
theorem inf67 (w : World) : Calls Try.prog 67 #[.int .i64 1] w fun e w' => e = .returned (.float .f64 9218868437227405312) ∧ w' = w := by
  go_enter Try.func67, Try.ntmps67
  go_wp2
  go_ret
  exact ⟨rfl, rfl⟩
theorem sign68 (w : World) : Calls Try.prog 68 #[.float .f64 0, .float .f64 13830554455654793216] w fun e w' => e = .returned (.float .f64 9223372036854775808) ∧ w' = w := by
  have key : (bits .or .u64 (bits .andNot .u64 0 9223372036854775808) (bits .and .u64 13830554455654793216 9223372036854775808)).toNat = 9223372036854775808 := by decide +kernel
  go_enter Try.func68, Try.ntmps68
  go_wp2
  go_ret
  exact ⟨by simp, rfl⟩

theorem flist_alloc (w : World) (xs : List Nat) : ∀ i, i < xs.length → (w.alloc (.cells (xs.map fun z => Value.float .f64 z).toArray 25)).cell? ⟨w.heap.size, i, none⟩ = some (.float .f64 (xs.getD i 0)) := by
  intro i hi
  have h : (w.alloc (.cells (xs.map fun z => Value.float .f64 z).toArray 25)).heap[w.heap.size]? = some (.cells (xs.map fun z => Value.float .f64 z).toArray 25) := heap_alloc_new w _
  unfold World.cell?
  rw [h]
  show (xs.map fun z => Value.float .f64 z).toArray[i]? = _
  rw [List.getElem?_toArray, List.getElem?_map, List.getD_eq_getElem?_getD, List.getElem?_eq_getElem hi]
  rfl
def rlA : List Nat := [0, 4607182418800017408, 13830554455654793216, 4602678819172646912, 4591870180066957722, 9094988921128908188, 18318360957983683996, 1, 9218868437227405311, 4715268810125344768, 3918770277926589793, 5183771782906367355]
def rlB : List Nat := [9221120237041090561, 9218868437227405312, 9223372036854775808]
def DrawnF (b : Nat) (K : Int) (w : World) (e : Ending) (w' : World) : Prop := ∃ r, e = .returned (.float .f64 r) ∧ r < 18446744073709551616 ∧ CurOk w' b K ∧ GrownBut b w w'
theorem ofInt_lt (n : Int) : floatOfInt .f64 n < 18446744073709551616 := by
  have := floatOfInt_wf .f64 n
  simpa [Lit.wf] using this
theorem nat_of (r : Int) (n : Nat) (h0 : 0 ≤ r) (h1 : r < n) : ∃ k : Nat, r = k ∧ k < n := ⟨r.toNat, by omega, by omega⟩

set_option maxHeartbeats 2000000 in
theorem real_ok (w : World) (b : Nat) (K : Int) (h : CurOk w b K) (hK : K ≤ 1152921504606840000) :
    Calls Try.prog 61 #[.pointer (some ⟨b, 0, none⟩)] w (DrawnF b (K + 20) w) := by
  have hu3 := Try.underlying3
  have hu25 := Try.underlying25
  go_enter Try.func61, Try.ntmps61
  go_wp2_with fail
  refine (pick_ok _ b K 6 h (by omega) (by omega)).mono ?_
  rintro e w1 ⟨r, rfl, hr, hC, hg⟩
  have hlt := hC.lt
  by_cases e0 : r = 0
  · subst e0
    go_wp2_with fail
    refine (pick_ok _ b (K + 2) 12 (hC.grown ((Grown.refl _).alloc _ _)) (by omega) (by omega)).mono ?_
    rintro e w2 ⟨z, rfl, hz, hC2, hg2⟩
    obtain ⟨k, rfl, hk⟩ := nat_of z 12 hz.1 hz.2
    have hc := hg2.cell (flist_alloc w1 rlA k hk) (by omega)
    have hv : rlA.getD k 0 < 18446744073709551616 := by
      have : ∀ k, k < 12 → rlA.getD k 0 < 18446744073709551616 := by decide
      exact this k hk
    generalize rlA.getD k 0 = v at hc hv
    go_wp2
    go_ret
    exact ⟨v, rfl, hv, hC2.le (by omega), hg.trans ((GrownBut.of ((Grown.refl _).alloc _ _)).trans hg2)⟩
  have d0 : (r == 0) = false := beq_eq_false_iff_ne.2 e0
  by_cases e1 : r = 1
  · subst e1
    go_wp2_with fail
    refine (pick_ok _ b (K + 2) 2001 hC (by omega) (by omega)).mono ?_
    rintro e w2 ⟨z, rfl, hz, hC2, hg2⟩
    go_wp2
    go_ret
    exact ⟨_, rfl, fop_lt _ _ _ _, (hC2.le (by omega)).grown (drewN_grown (Grown.refl _) _), hg.trans (hg2.trans (GrownBut.of (drewN_grown (Grown.refl _) _)))⟩
  have d1 : (r == 1) = false := beq_eq_false_iff_ne.2 e1
  by_cases e2 : r = 2
  · subst e2
    go_wp2_with fail
    refine (wide_ok _ b (K + 2) hC (by omega)).mono ?_
    rintro e w2 ⟨z, rfl, hz, hC2, hg2⟩
    have hz' : (IntKind.u64.wrap z).toNat < 18446744073709551616 := by have := wrap_lo z; have := wrap_hi z; omega
    generalize hv : (IntKind.u64.wrap z).toNat = v at hz'
    cases hgd : good v
    · go_wp2_with (go_at_call 21; refine (specGood _ hz' _).mono ?_; rw [hgd]; rintro e w' ⟨rfl, rfl⟩)
      go_ret
      exact ⟨_, rfl, by omega, hC2.le (by omega), hg.trans hg2⟩
    · go_wp2_with (go_at_call 21; refine (specGood _ hz' _).mono ?_; rw [hgd]; rintro e w' ⟨rfl, rfl⟩)
      go_ret
      exact ⟨v, rfl, hz', hC2.le (by omega), hg.trans hg2⟩
  have d2 : (r == 2) = false := beq_eq_false_iff_ne.2 e2
  clear e0 e1 e2
  go_wp2_with fail
  refine (one_ok _ b (K + 2) 40 hC (by omega) (by omega)).mono ?_
  rintro e w2 ⟨yes, rfl, hC2, hg2⟩
  have hlt2 := hC2.lt
  cases yes
  · go_wp2_with fail
    refine (pick_ok _ b (K + 4) 201 (hC2.le (by omega)) (by omega) (by omega)).mono ?_
    rintro e w3 ⟨z, rfl, hz, hC3, hg3⟩
    go_wp2
    go_ret
    exact ⟨_, rfl, ofInt_lt _, hC3.le (by omega), hg.trans (hg2.trans hg3)⟩
  · go_wp2_with (first | (go_at_call 66; refine (nan66 _).mono ?_; rintro e w' ⟨rfl, rfl⟩) | (go_at_call 67; refine (inf67 _).mono ?_; rintro e w' ⟨rfl, rfl⟩) | (go_at_call 68; refine (sign68 _).mono ?_; rintro e w' ⟨rfl, rfl⟩))
    refine (pick_ok _ b (K + 4) 3 ((hC2.le (by omega)).grown ((Grown.refl _).alloc _ _)) (by omega) (by omega)).mono ?_
    rintro e w3 ⟨z, rfl, hz, hC3, hg3⟩
    obtain ⟨k, rfl, hk⟩ := nat_of z 3 hz.1 hz.2
    have hc := hg3.cell (flist_alloc _ rlB k hk) (by omega)
    have hv : rlB.getD k 0 < 18446744073709551616 := by
      have : ∀ k, k < 3 → rlB.getD k 0 < 18446744073709551616 := by decide
      exact this k hk
    generalize rlB.getD k 0 = v at hc hv
    go_wp2
    go_ret
    exact ⟨v, rfl, hv, hC3.le (by omega), hg.trans (hg2.trans ((GrownBut.of ((Grown.refl _).alloc _ _)).trans hg3))⟩
end Go.Proofs.Ythbhoppmdcfgeaa
