/-
  A filter, sample by sample, free of the program: memories, runs in pieces, what is asked at each step.
-/
import Derived.Test.YtghmnhohdbombaaReal16
import Derived.Test.YtghmnhohdbombaaPow16
namespace Go.Proofs.Ytghmnhohdbombaa
open Go.ChangeShapes Go.WideShapes Go.ChangeAt Go.RowKit Ieee

def yO (p : FilterD) (s1 x : Nat) : Option Nat := opN .add (opN .mul (nrm p.1) (nrm x)) (nrm s1)
def aO (p : FilterD) (s1 s2 x : Nat) : Option Nat := opN .add (opN .sub (opN .mul (nrm p.2.1) (nrm x)) (opN .mul (nrm p.2.2.2.1) (yO p s1 x))) (nrm s2)
def bO (p : FilterD) (s1 x : Nat) : Option Nat := opN .sub (opN .mul (nrm p.2.2.1) (nrm x)) (opN .mul (nrm p.2.2.2.2) (yO p s1 x))
def stepM (p : FilterD) (m : MemoryD) (x : Nat) : Option (Nat × MemoryD) :=
  if finO (yO p m.1 x) && finO (aO p m.1 m.2 x) && finO (bO p m.1 x) then some (plainO (yO p m.1 x), plainO (aO p m.1 m.2 x), plainO (bO p m.1 x)) else none
def runM (p : FilterD) : MemoryD → List Nat → Option (List Nat × MemoryD)
  | m, [] => some ([], m)
  | m, x :: xs => (stepM p m x).bind fun r => (runM p r.2 xs).map fun q => (r.1 :: q.1, q.2)
theorem runM_append (p : FilterD) (l1 l2 : List Nat) : ∀ m, runM p m (l1 ++ l2) = (runM p m l1).bind fun q => (runM p q.2 l2).map fun r => (q.1 ++ r.1, r.2) := by
  induction l1 with
  | nil => intro m; simp [runM]
  | cons x xs ih =>
    intro m
    simp only [List.cons_append, runM]
    cases stepM p m x with
    | none => rfl
    | some r =>
      simp only [Option.bind_some]
      rw [ih]
      cases runM p r.2 xs with
      | none => rfl
      | some q =>
        simp only [Option.bind_some, Option.map_some]
        cases runM p q.2 l2 <;> simp
theorem runM_snoc (p : FilterD) (l : List Nat) (x : Nat) (m : MemoryD) : runM p m (l ++ [x]) = (runM p m l).bind fun q => (stepM p q.2 x).map fun r => (q.1 ++ [r.1], r.2) := by
  rw [runM_append]
  cases runM p m l with
  | none => rfl
  | some q =>
    simp only [Option.bind_some, runM]
    cases stepM p q.2 x <;> simp
theorem runM_none (p : FilterD) (l : List Nat) (k : Nat) (m : MemoryD) (h : runM p m (l.take k) = none) : runM p m l = none := by
  rw [← List.take_append_drop k l, runM_append, h]
  rfl
def goodF (p : FilterD) : Bool := good p.1 && good p.2.1 && good p.2.2.1 && good p.2.2.2.1 && good p.2.2.2.2
def goodM (m : MemoryD) : Bool := good m.1 && good m.2
def runF (p : FilterD) (m : MemoryD) (l : List Nat) : List Nat × MemoryD × Bool :=
  if goodF p && goodM m && goodR l then (match runM p m l with
    | some q => (q.1, q.2, true)
    | none => ([], (0, 0), false)) else ([], (0, 0), false)
def GoodB (x : Nat) : Prop := good x = true ∧ x < 18446744073709551616
theorem GoodB.nrm {x : Nat} (h : GoodB x) : nrm x = some x := nrm_fin (good_fin h.1)
theorem GoodB.lt {x : Nat} (h : GoodB x) : ∀ y, Go.Proofs.Ytghmnhohdbombaa.nrm x = some y → y < 18446744073709551616 := by
  intro y hy; rw [h.nrm] at hy; cases hy; exact h.2
theorem GoodB.plain {x : Nat} (h : GoodB x) : Plain (Go.Proofs.Ytghmnhohdbombaa.nrm x) := by
  intro y hy; rw [h.nrm] at hy; cases hy; exact good_ne h.1
theorem y_plain (p : FilterD) (s1 x : Nat) (h : GoodB s1) : Plain (yO p s1 x) := opN_plain' h.lt h.plain
theorem a_plain (p : FilterD) (s1 s2 x : Nat) (h : GoodB s2) : Plain (aO p s1 s2 x) := opN_plain' h.lt h.plain
theorem y_bad (p : FilterD) (s1 s2 x : Nat) (h : finO (yO p s1 x) = false) : finO (aO p s1 s2 x) = false := add_bad (.inl (sub_bad (.inr (mul_bad (.inr h)))))
theorem good_out {r : Nat} {o : Option Nat} (hn : nrm r = o) (hp : Plain o) : good r = finO o := by
  unfold good
  rw [← hn, finO_nrm]
  cases h : fin r with
  | false => rfl
  | true =>
    have := hp r (by rw [← hn, nrm_fin h])
    simp [this]
/-- What the program asks of the memory alone tells of what came out too. -/
theorem step_of (p : FilterD) (m : MemoryD) (x y a b : Nat) (h1 : GoodB m.1) (h2 : GoodB m.2) (hy : nrm y = yO p m.1 x) (ha : nrm a = aO p m.1 m.2 x) (hb : nrm b = bO p m.1 x) (ly : y < 18446744073709551616) (la : a < 18446744073709551616) (lb : b < 18446744073709551616) :
    stepM p m x = if good a && good (plain b) then some (y, a, plain b) else none := by
  have ga := good_out ha (a_plain p m.1 m.2 x h2)
  have gb : good (plain b) = finO (bO p m.1 x) := by rw [good_plain lb, ← hb, finO_nrm]
  unfold stepM
  rw [ga, gb]
  cases fy : finO (yO p m.1 x) with
  | false => rw [y_bad p m.1 m.2 x fy]; rfl
  | true =>
    cases fa : finO (aO p m.1 m.2 x) with
    | false => rfl
    | true =>
      cases fb : finO (bO p m.1 x) with
      | false => rfl
      | true =>
        rw [out_same hy fy ly (y_plain p m.1 x h1), out_same ha fa la (a_plain p m.1 m.2 x h2), out_plain hb fb]
        rfl
theorem goodB_plain {r : Nat} {o : Option Nat} (hn : nrm r = o) (hf : finO o = true) (hr : r < 18446744073709551616) : GoodB (plainO o) := by
  rw [out_plain hn hf]
  rw [← hn, finO_nrm] at hf
  exact ⟨by rw [good_plain hr, hf], plain_lt hr⟩
theorem step_good (p : FilterD) (m : MemoryD) (x : Nat) (r : Nat × MemoryD) (h : stepM p m x = some r) : GoodB r.1 ∧ GoodB r.2.1 ∧ GoodB r.2.2 := by
  unfold stepM at h
  split at h
  · rename_i hc
    simp only [Bool.and_eq_true] at hc
    cases h
    have key : ∀ (op : BinOp) (a b : Option Nat), finO (opN op a b) = true → GoodB (plainO (opN op a b)) := by
      intro op a b hf
      cases ho : opN op a b with
      | none => rw [ho] at hf; cases hf
      | some v =>
        obtain ⟨h1, h2⟩ := opN_lt ho
        exact goodB_plain (r := v) (by simp [nrm, h2]) (by rw [← ho]; exact hf) h1
    exact ⟨key _ _ _ hc.1.1, key _ _ _ hc.1.2, key _ _ _ hc.2⟩
  · cases h
theorem run_len (p : FilterD) (l : List Nat) : ∀ m q, runM p m l = some q → q.1.length = l.length := by
  induction l with
  | nil => intro m q h; cases h; rfl
  | cons x xs ih =>
    intro m q h
    simp only [runM] at h
    cases hs : stepM p m x with
    | none => rw [hs] at h; cases h
    | some r =>
      rw [hs] at h
      simp only [Option.bind_some] at h
      cases hr : runM p r.2 xs with
      | none => rw [hr] at h; cases h
      | some t =>
        rw [hr] at h
        cases h
        simp [ih _ _ hr]

end Go.Proofs.Ytghmnhohdbombaa
