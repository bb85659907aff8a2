/-
  Clouds that step and run, free of the program.
-/
import Derived.Test.YtpeiblodefaajaaDoorCoin12
import Derived.Test.YtpeiblodefaajaaDoorMulAll
import Derived.Test.YtpeiblodefaajaaDoorSin
namespace Go.Proofs.YtpeiblodefaajaaDoor
open Go.ChangeShapes Go.WideShapes Go.ChangeAt Go.RowKit

set_option linter.unusedVariables false
def shareI (s c : Int) : Int := s * c / 32768
theorem share_bd {s c : Int} (h0 : 0 ≤ s) (hc : 0 ≤ c ∧ c ≤ 32767) : 0 ≤ shareI s c ∧ shareI s c ≤ s := by
  have h1 : s * c ≤ s * 32767 := Int.mul_le_mul_of_nonneg_left hc.2 (by omega)
  have h2 : 0 ≤ s * c := Int.mul_nonneg (by omega) hc.1
  unfold shareI
  omega
theorem mul_bd2 {s c : Int} (h0 : 0 ≤ s) (h1 : s ≤ 60000000) (hc : 0 ≤ c ∧ c ≤ 32767) : 0 ≤ s * c ∧ s * c ≤ 2000000000000 := by
  have e1 : s * c ≤ s * 32767 := Int.mul_le_mul_of_nonneg_left hc.2 h0
  have e2 : 0 ≤ s * c := Int.mul_nonneg h0 hc.1
  omega
/-- A spark one step later. -/
def laterS (fa : Int) (p : SparkD) : SparkD := (p.1 + p.2.2.1, p.2.1 + p.2.2.2.1, p.2.2.1, p.2.2.2.1 - fa, p.2.2.2.2 - 1)
def overB (p : SparkD) : Bool := p.2.2.2.2 == 0
def laterL (fa : Int) (l : List SparkD) : List SparkD := (l.map (laterS fa)).filter fun p => !overB p
theorem laterL_snoc (fa : Int) (l : List SparkD) (p : SparkD) : laterL fa (l ++ [p]) = laterL fa l ++ (if overB (laterS fa p) then [] else [laterS fa p]) := by
  unfold laterL
  rw [List.map_append, List.filter_append]
  cases h : overB (laterS fa p) <;> simp [h]
theorem laterL_len (fa : Int) (l : List SparkD) : (laterL fa l).length ≤ l.length := by
  have := List.length_filter_le (fun p => !overB p) (l.map (laterS fa))
  simpa [laterL] using this
/-- The seed behind n sparks that were born. -/
def seedN (s : Int) : Nat → Int
  | 0 => s
  | n + 1 => coinN (coinN (seedN s n))
theorem seedN_bd {s : Int} (h : 0 ≤ s ∧ s ≤ 2147483647) : ∀ n, 0 ≤ seedN s n ∧ seedN s n ≤ 2147483647
  | 0 => h
  | n + 1 => coinN_bd _
/-- A spark that is born by the two coins behind a seed. -/
def bornS (e : EmitterD) (s : Int) : SparkD :=
  (e.1, e.2.1, mulM (shareI e.2.2.2.2.2.1 (coinC (coinN s))) (cosM (coinC s % 4096)), mulM (shareI e.2.2.2.2.2.1 (coinC (coinN s))) (sinM (coinC s % 4096)), e.2.2.2.2.1)
def bornL (e : EmitterD) (s : Int) (k : Nat) : List SparkD := (List.range k).map fun i => bornS e (seedN s i)
theorem bornL_succ (e : EmitterD) (s : Int) (k : Nat) : bornL e s (k + 1) = bornL e s k ++ [bornS e (seedN s k)] := by simp [bornL, List.range_succ]
theorem bornL_len (e : EmitterD) (s : Int) (k : Nat) : (bornL e s k).length = k := by simp [bornL]
def EP (e : EmitterD) : Prop := EmitP e.1 e.2.1 e.2.2.1 e.2.2.2.1 e.2.2.2.2.1 e.2.2.2.2.2.1 e.2.2.2.2.2.2
instance (e : EmitterD) : Decidable (EP e) := by unfold EP; infer_instance
/-- How many are born. -/
def manyB (e : EmitterD) (c : CloudD) : Nat := if c.2.1 % e.2.2.1 = 0 then min e.2.2.2.1.toNat (60 - (laterL e.2.2.2.2.2.2 c.2.2).length) else 0
def newC (e : EmitterD) (c : CloudD) : CloudD := (seedN c.1 (manyB e c), c.2.1 + 1, laterL e.2.2.2.2.2.2 c.2.2 ++ bornL e c.1 (manyB e c))
/-- What StepCloud answers. -/
def c0 : CloudD := (0, 0, [])
def stepA (e : EmitterD) (c : CloudD) : CloudD × Bool := if (EP e ∧ CloudP c ∧ c.2.1 ≠ 200) ∧ CloudP (newC e c) then (newC e c, true) else (c0, false)
theorem stepA_no {e : EmitterD} {c : CloudD} (h : ¬ (EP e ∧ CloudP c ∧ c.2.1 ≠ 200)) : stepA e c = (c0, false) := if_neg fun k => h k.1
theorem stepA_bad {e : EmitterD} {c : CloudD} (h : ¬ CloudP (newC e c)) : stepA e c = (c0, false) := if_neg fun k => h k.2
theorem stepA_yes {e : EmitterD} {c : CloudD} (h : EP e ∧ CloudP c ∧ c.2.1 ≠ 200) (k : CloudP (newC e c)) : stepA e c = (newC e c, true) := if_pos ⟨h, k⟩
theorem stepA_good {e : EmitterD} {c : CloudD} (h : (stepA e c).2 = true) : CloudP (stepA e c).1 := by
  unfold stepA at h ⊢
  split at h
  · rename_i hh; rw [if_pos hh]; exact hh.2
  · exact absurd h (by simp)
theorem newC_len {e : EmitterD} {c : CloudD} (h : CloudP c) : (newC e c).2.2.length ≤ 60 := by
  have h1 := laterL_len e.2.2.2.2.2.2 c.2.2
  have h2 := h.2.2.1
  simp only [newC, List.length_append, bornL_len, manyB]
  split <;> omega
theorem stepA_len (e : EmitterD) (c : CloudD) : (stepA e c).1.2.2.length ≤ 60 := by
  unfold stepA
  split
  · rename_i h; exact newC_len h.1.2.1
  · simp [c0]
/-- Steps one behind the other. -/
def runN (e : EmitterD) : Nat → CloudD → CloudD × Bool
  | 0, c => (c, true)
  | n + 1, c => if (stepA e c).2 = true then runN e n (stepA e c).1 else (c0, false)
def runA (e : EmitterD) (c : CloudD) (k : Int) : CloudD × Bool := if EP e ∧ CloudP c ∧ 0 ≤ k ∧ k ≤ 200 then runN e k.toNat c else (c0, false)
theorem runA_no {e : EmitterD} {c : CloudD} {k : Int} (h : ¬ (EP e ∧ CloudP c ∧ 0 ≤ k ∧ k ≤ 200)) : runA e c k = (c0, false) := if_neg h
theorem runA_yes {e : EmitterD} {c : CloudD} {k : Nat} (h : EP e ∧ CloudP c ∧ 0 ≤ (k : Int) ∧ (k : Int) ≤ 200) : runA e c k = runN e k c := by unfold runA; rw [if_pos h, Int.toNat_natCast]
theorem runN_len (e : EmitterD) : ∀ (n : Nat) (c : CloudD), c.2.2.length ≤ 60 → (runN e n c).1.2.2.length ≤ 60
  | 0, c, h => h
  | n + 1, c, h => by
    unfold runN
    split
    · exact runN_len e n _ (stepA_len e c)
    · simp [c0]
theorem runA_len (e : EmitterD) (c : CloudD) (k : Int) : (runA e c k).1.2.2.length ≤ 60 := by
  unfold runA
  split
  · rename_i h; exact runN_len e _ c h.2.1.2.2.1
  · simp [c0]
theorem retC {v : Value} {c c' : Bool} (h : c = c') : Ending.returned (.tuple #[v, .bool c]) = .returned (.tuple #[v, .bool c']) := by rw [h]
theorem good_later {fa : Int} {p : SparkD} (h : SparkP p) (hf : -1000000 ≤ fa ∧ fa ≤ 1000000) : (-2199023255552 ≤ p.1 + p.2.2.1 ∧ p.1 + p.2.2.1 ≤ 2199023255552) ∧ (-2199023255552 ≤ p.2.1 + p.2.2.2.1 ∧ p.2.1 + p.2.2.2.1 ≤ 2199023255552) ∧ (-2199023255552 ≤ p.2.2.2.1 - fa ∧ p.2.2.2.1 - fa ≤ 2199023255552) ∧ 0 ≤ p.2.2.2.2 - 1 ∧ p.2.2.2.2 - 1 ≤ 199 := by
  unfold SparkP at h
  omega

end Go.Proofs.YtpeiblodefaajaaDoor
