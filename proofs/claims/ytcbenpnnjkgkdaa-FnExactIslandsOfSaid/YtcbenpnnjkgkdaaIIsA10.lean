/-
  IslandsOf of the program at every argument.
-/
import Derived.Test.YtcbenpnnjkgkdaaIIs10
namespace Go.Proofs.Ytcbenpnnjkgkdaa
open Go.ChangeShapes Go.WideShapes Go.ChangeAt Go.RowKit

set_option maxRecDepth 100000
set_option linter.unusedVariables false
set_option linter.unusedSimpArgs false

theorem isA_no {m : Int} {ts : List PairD} (h : ¬ IslP m ts) : isA m ts = [] := if_neg h
theorem isA_yes {n : Nat} {ts : List PairD} (h : IslP n ts) : isA n ts = isL (fstL (fst0 n) ts) n := by unfold isA; rw [if_pos h, Int.toNat_natCast]
set_option maxHeartbeats 4000000 in
theorem iis (m : Int) (ts : List PairD) (v : Value) (w : World) (hv : PairAt w v ts) (hn : ts.length ≤ 1048576) :
    Calls Try.prog 7 #[.int .i64 m, v] w fun e w' => ∃ v', e = .returned (.tuple #[v', .bool (decide (IslP m ts))]) ∧ LLO w' w.heap.size w'.heap.size v' (isA m ts) ∧ Kept w w' := by
  by_cases hp : IslP m ts
  · obtain ⟨n, rfl⟩ : ∃ n : Nat, m = n := ⟨m.toNat, by have := hp.1; omega⟩
    rw [isA_yes hp, decide_eq_true hp]
    exact iis_good n ts v w hv (by have := hp.2.1; omega) hp.2.2
  · rw [isA_no hp, decide_eq_false hp]
    have AG := igt m ts v w hv hn
    obtain ⟨ao, cap, rfl⟩ := row_nil hv
    clear hv
    by_cases h0 : m < 0
    · have d0 : decide (m < 0) = true := decide_eq_true h0
      clear AG hp h0
      go_enter Try.func7, Try.ntmps7
      repeat (first | go_values | go_skip | go_guarded | go_step | go_upon)
      go_ret2
      exact ⟨_, rfl, nil_lists _ _ _, But.refl _ _ _⟩
    · have d0 : decide (m < 0) = false := decide_eq_false h0
      by_cases h4 : 40 < m
      · have d1 : decide (40 < m) = true := decide_eq_true h4
        clear AG hp h0 h4
        go_enter Try.func7, Try.ntmps7
        repeat (first | go_values | go_skip | go_guarded | go_step | go_upon)
        go_ret2
        exact ⟨_, rfl, nil_lists _ _ _, But.refl _ _ _⟩
      · have d1 : decide (40 < m) = false := decide_eq_false h4
        rw [decide_eq_false (fun h => hp ⟨by omega, by omega, h⟩)] at AG
        clear hp h0 h4
        go_enter Try.func7, Try.ntmps7
        repeat (first | go_values | go_skip | go_guarded | go_step | go_upon)
        go_at_call 15
        refine AG.mono ?_
        rintro e w1 ⟨rfl, k1⟩
        dsimp only
        repeat (first | go_values | go_skip | go_guarded | go_step | go_upon)
        go_ret2
        exact ⟨_, rfl, nil_lists _ _ _, k1⟩

end Go.Proofs.Ytcbenpnnjkgkdaa
