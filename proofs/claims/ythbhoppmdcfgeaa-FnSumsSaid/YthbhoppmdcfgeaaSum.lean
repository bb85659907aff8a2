/-
  What SumInOrder answers, in the program and in its specification: the same at every row of floats.
-/
import Derived.Test.YthbhoppmdcfgeaaBlend
namespace Go.Proofs.Ythbhoppmdcfgeaa
open Go.ChangeShapes Go.WideShapes Go.ChangeAt Go.RowKit Ieee

/-- The floats xs lie behind ao. -/
def FRow (w : World) (ao : Option Addr) (xs : List Nat) : Prop := ∀ i, i < xs.length → ∃ ab off, ao = some ⟨ab, off, none⟩ ∧ w.cell? ⟨ab, off + i, none⟩ = some (.float .f64 (xs.getD i 0))
def Wide (xs : List Nat) : Prop := ∀ i, i < xs.length → xs.getD i 0 < 18446744073709551616

def accO (xs : List Nat) : Option Nat := xs.foldl (fun a x => opN .add a (nrm x)) (some 0)
theorem accO_snoc (xs : List Nat) (x : Nat) : accO (xs ++ [x]) = opN .add (accO xs) (nrm x) := by simp [accO, List.foldl_append]
def sumM (xs : List Nat) : Nat × Bool :=
  if xs.length ≤ 64 && xs.all good && finO (accO xs) then (plainO (accO xs), true) else (0, false)

theorem take_succ' (xs : List Nat) (k : Nat) (h : k < xs.length) : xs.take (k + 1) = xs.take k ++ [xs.getD k 0] := by
  rw [List.take_add_one, List.getD_eq_getElem?_getD, List.getElem?_eq_getElem h]; rfl
theorem all_succ (xs : List Nat) (k : Nat) (h : k < xs.length) : (xs.take (k + 1)).all good = ((xs.take k).all good && good (xs.getD k 0)) := by
  rw [take_succ' xs k h, List.all_append]; simp
theorem all_false (xs : List Nat) (k : Nat) (h : k < xs.length) (hg : good (xs.getD k 0) = false) : xs.all good = false := by
  rw [List.all_eq_false]
  refine ⟨xs.getD k 0, ?_, by rw [hg]; simp⟩
  rw [List.getD_eq_getElem?_getD, List.getElem?_eq_getElem h]
  exact List.getElem_mem h
/-- A sum in order is no nought with a sign. -/
theorem acc_plain (xs : List Nat) (v : Nat) (h : accO xs = some v) : v < 18446744073709551616 ∧ v ≠ 9223372036854775808 := by
  have key : ∀ (l : List Nat) (a : Option Nat), (∀ u, a = some u → u < 18446744073709551616 ∧ u ≠ 9223372036854775808) → ∀ v, l.foldl (fun a x => opN .add a (nrm x)) a = some v → v < 18446744073709551616 ∧ v ≠ 9223372036854775808 := by
    intro l
    induction l with
    | nil => intro a ha v hv; exact ha v hv
    | cons x l ih =>
      intro a ha v hv
      refine ih (opN .add a (nrm x)) ?_ v hv
      intro u hu
      refine ⟨(opN_lt hu).1, ?_⟩
      cases a with
      | none => simp [opN] at hu
      | some a =>
        cases hx : nrm x with
        | none => rw [hx] at hu; simp [opN] at hu
        | some y =>
          rw [hx] at hu
          exact add_plain (ha a rfl).1 (ha a rfl).2 hu
  refine key xs (some 0) ?_ v h
  intro u hu
  cases hu
  exact ⟨by omega, by omega⟩
theorem plain_self {r : Nat} (h : r < 18446744073709551616) (hn : r ≠ 9223372036854775808) : plain r = r := by
  unfold plain
  cases hz : zeroB r
  · rfl
  · simp only [zeroB, decide_eq_true_eq] at hz
    simp only [if_true]
    omega

set_option maxHeartbeats 1000000 in
theorem implSum (ao : Option Addr) (cap : Nat) (xs : List Nat) (w : World) (hw : FRow w ao xs) (hx : Wide xs) (hl : xs.length ≤ 1048576) :
    Calls Try.prog 14 #[.slice ao xs.length cap] w fun e w' => e = .returned (fbV (sumM xs)) ∧ ∃ n, w' = w.drewN n := by
  by_cases h64 : xs.length ≤ 64
  · go_enter Try.func14, Try.ntmps14
    go_wp2
    go_loopw [4, 12] (fun s i wr => ∃ (k r n : Nat), k ≤ xs.length ∧ i = .int .i64 k ∧ s = .float .f64 r ∧ r < 18446744073709551616 ∧ nrm r = accO (xs.take k) ∧ (xs.take k).all good = true ∧ wr = w.drewN n) (fun _ i _ => xs.length - (intOf i).toNat)
    case atStart => exact ⟨0, 0, 0, by omega, rfl, rfl, by omega, rfl, rfl, rfl⟩
    case round =>
      obtain ⟨k, r, n, hk, rfl, rfl, hr, hacc, hall, rfl⟩ := hrel
      by_cases hkl : k < xs.length
      · obtain ⟨ab, off, rfl, hc⟩ := hw k hkl
        have hxk := hx k hkl
        have ht := take_succ' xs k hkl
        have ha := all_succ xs k hkl
        have hb := all_false xs k hkl
        generalize hxv : xs.getD k 0 = x at *
        have HT : Hid (xs.take (k + 1) = xs.take k ++ [x]) := ht
        clear ht
        cases hg : good x
        · have hbad := hb hg
          clear ha hb
          go_wp2_with (go_at_call 22; refine (implGood _ hxk _).mono ?_; rw [hg]; rintro e w' ⟨rfl, rfl⟩)
          go_returns
          exact ⟨by simp [sumM, hbad], _, rfl⟩
        · rw [hall, hg] at ha
          clear hb
          go_wp2_with (go_at_call 22; refine (implGood _ hxk _).mono ?_; rw [hg]; rintro e w' ⟨rfl, rfl⟩)
          refine ⟨⟨k + 1, _, _, hkl, by go_num, rfl, fop_lt _ _ _ _, ?_, ha, rfl⟩, by simp [intOf]; omega⟩
          rw [nrm_fop, hacc, show xs.take (k + 1) = _ from HT, accO_snoc]
      · have hke : k = xs.length := by omega
        subst hke
        rw [List.take_length] at hacc hall
        go_wp2_with fail
        go_at_call 40; refine (isFiniteC _ hr _).mono ?_; rintro e w1 (⟨rfl, hf, rfl⟩ | ⟨rfl, hf, rfl⟩)
        · skip
          go_wp2
          go_returns
          refine ⟨?_, _, rfl⟩
          rw [finO_nrm] at hf
          rw [nrm_fin hf] at hacc
          have hp := acc_plain xs r hacc.symm
          simp only [sumM, hall, ← hacc, h64, finO, hf, plainO, plain_self hp.1 hp.2, decide_true, Bool.and_self, if_true]
          rfl
        · go_wp2
          go_returns
          rw [hacc] at hf
          exact ⟨by simp [sumM, hf], _, rfl⟩
  · go_enter Try.func14, Try.ntmps14
    go_wp2
    go_returns
    exact ⟨by simp [sumM, h64], 0, rfl⟩
set_option maxHeartbeats 1000000 in
theorem specSum (ao : Option Addr) (cap : Nat) (xs : List Nat) (w : World) (hw : FRow w ao xs) (hx : Wide xs) (hl : xs.length ≤ 1048576) :
    Calls Try.prog 15 #[.slice ao xs.length cap] w fun e w' => e = .returned (fbV (sumM xs)) ∧ ∃ n, w' = w.drewN n := by
  by_cases h64 : xs.length ≤ 64
  · go_enter Try.func15, Try.ntmps15
    go_wp2
    go_loopw [4, 12] (fun s i wr => ∃ (k r n : Nat), k ≤ xs.length ∧ i = .int .i64 k ∧ s = .float .f64 r ∧ r < 18446744073709551616 ∧ nrm r = accO (xs.take k) ∧ (xs.take k).all good = true ∧ wr = w.drewN n) (fun _ i _ => xs.length - (intOf i).toNat)
    case atStart => exact ⟨0, 0, 0, by omega, rfl, rfl, by omega, rfl, rfl, rfl⟩
    case round =>
      obtain ⟨k, r, n, hk, rfl, rfl, hr, hacc, hall, rfl⟩ := hrel
      by_cases hkl : k < xs.length
      · obtain ⟨ab, off, rfl, hc⟩ := hw k hkl
        have hxk := hx k hkl
        have ht := take_succ' xs k hkl
        have ha := all_succ xs k hkl
        have hb := all_false xs k hkl
        generalize hxv : xs.getD k 0 = x at *
        have HT : Hid (xs.take (k + 1) = xs.take k ++ [x]) := ht
        clear ht
        cases hg : good x
        · have hbad := hb hg
          clear ha hb
          go_wp2_with (go_at_call 21; refine (specGood _ hxk _).mono ?_; rw [hg]; rintro e w' ⟨rfl, rfl⟩)
          go_returns
          exact ⟨by simp [sumM, hbad], _, rfl⟩
        · rw [hall, hg] at ha
          clear hb
          go_wp2_with (go_at_call 21; refine (specGood _ hxk _).mono ?_; rw [hg]; rintro e w' ⟨rfl, rfl⟩)
          refine ⟨⟨k + 1, _, _, hkl, by go_num, rfl, fop_lt _ _ _ _, ?_, ha, rfl⟩, by simp [intOf]; omega⟩
          rw [nrm_fop, hacc, show xs.take (k + 1) = _ from HT, accO_snoc]
      · have hke : k = xs.length := by omega
        subst hke
        rw [List.take_length] at hacc hall
        go_wp2_with fail
        go_at_call 41; refine (l2FiniteC _ hr _).mono ?_; rintro e w1 (⟨rfl, hf, rfl⟩ | ⟨rfl, hf, rfl⟩)
        · skip
          go_wp2_with (go_at_call 42; refine (l2Plain _ _).mono ?_; rintro e w' ⟨rfl, rfl⟩)
          go_returns
          refine ⟨?_, _, rfl⟩
          rw [finO_nrm] at hf
          rw [nrm_fin hf] at hacc
          simp only [sumM, hall, ← hacc, h64, finO, hf, plainO, decide_true, Bool.and_self, if_true]
          rfl
        · go_wp2
          go_returns
          rw [hacc] at hf
          exact ⟨by simp [sumM, hf], _, rfl⟩
  · go_enter Try.func15, Try.ntmps15
    go_wp2
    go_returns
    exact ⟨by simp [sumM, h64], 0, rfl⟩
end Go.Proofs.Ythbhoppmdcfgeaa
