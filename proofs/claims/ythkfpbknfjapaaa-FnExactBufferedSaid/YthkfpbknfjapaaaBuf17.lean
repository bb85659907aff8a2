/-
  The last one that is meant within a window; free of the program.
-/
import Derived.Test.YthkfpbknfjapaaaPure17
namespace Go.Proofs.Ythkfpbknfjapaaa
open Go.ChangeShapes Go.WideShapes Go.ChangeAt Go.RowKit

set_option maxRecDepth 100000
set_option linter.unusedVariables false

/-- One that is meant by this action within the window. -/
def hitB (a : ByteArray) (t win : Int) (d : MeantD) : Bool := d.2.2 && ((d.2.1.toList == a.toList) && decide (t - win ≤ d.1 ∧ d.1 ≤ t))
/-- The last one ahead of place k. -/
def bufK (l : List MeantD) (a : ByteArray) (t win : Int) : Nat → Int
  | 0 => -1
  | k + 1 => match l[k]? with
    | some d => if hitB a t win d then (k : Int) else bufK l a t win k
    | none => bufK l a t win k
theorem buf_yes {l : List MeantD} {a : ByteArray} {t win : Int} {k : Nat} {d : MeantD} (h : l[k]? = some d) (hb : hitB a t win d = true) : bufK l a t win (k + 1) = (k : Int) := by simp [bufK, h, hb]
theorem buf_no {l : List MeantD} {a : ByteArray} {t win : Int} {k : Nat} {d : MeantD} (h : l[k]? = some d) (hb : hitB a t win d = false) : bufK l a t win (k + 1) = bufK l a t win k := by simp [bufK, h, hb]
def BufOk (l : List MeantD) (a : ByteArray) (t win : Int) : Prop := MomsP l ∧ nameB a = true ∧ (0 ≤ t ∧ t ≤ 100000) ∧ (0 ≤ win ∧ win ≤ 100000)
noncomputable def bufA (l : List MeantD) (a : ByteArray) (t win : Int) : Int × Bool := if dec (BufOk l a t win) then (bufK l a t win l.length, true) else (0, false)
theorem bufA_no {l : List MeantD} {a : ByteArray} {t win : Int} (h : ¬ BufOk l a t win) : bufA l a t win = (0, false) := by unfold bufA; rw [dec_no h]; rfl
theorem bufA_yes {l : List MeantD} {a : ByteArray} {t win : Int} (h : BufOk l a t win) : bufA l a t win = (bufK l a t win l.length, true) := by unfold bufA; rw [dec_yes h]; rfl
abbrev BkE := Int × MeantD
/-- From this number back to the first one. -/
def Back (l : List MeantD) : Int → List BkE → Prop
  | a, [] => a = -1
  | a, x :: r => ∃ (i : Nat) (n : MeantD), a = (i : Int) ∧ l[i]? = some n ∧ x = ((i : Int), n) ∧ Back l ((i : Int) - 1) r
theorem back_is (l : List MeantD) : ∀ k : Nat, k ≤ l.length → ∃ xs, Back l ((k : Int) - 1) xs
  | 0, _ => ⟨[], by show ((0 : Nat) : Int) - 1 = -1; omega⟩
  | k + 1, h => by
    obtain ⟨xs, hx⟩ := back_is l k (by omega)
    obtain ⟨d, hd⟩ : ∃ p, l[k]? = some p := ⟨_, List.getElem?_eq_getElem (by omega)⟩
    exact ⟨((k : Int), d) :: xs, k, d, by omega, hd, rfl, hx⟩
def bufX (a : ByteArray) (t win : Int) (xs : List BkE) : Int := match xs.find? fun x => hitB a t win x.2 with
  | some x => x.1
  | none => -1
theorem back_buf (l : List MeantD) (a : ByteArray) (t win : Int) : ∀ (xs : List BkE) (k : Nat), Back l ((k : Int) - 1) xs → bufX a t win xs = bufK l a t win k
  | [], k, h => by
    have h : ((k : Int) - 1) = -1 := h
    obtain rfl : k = 0 := by omega
    rfl
  | x :: r, k, h => by
    obtain ⟨i, n, h1, h2, rfl, h3⟩ := h
    obtain rfl : k = i + 1 := by omega
    unfold bufX
    rw [List.find?_cons]
    cases hb : hitB a t win n with
    | true => rw [buf_yes h2 hb]
    | false =>
      rw [buf_no h2 hb]
      exact back_buf l a t win r i h3
theorem bufX_none {a : ByteArray} {t win : Int} {xs : List BkE} (h : ∀ x ∈ xs, hitB a t win x.2 = false) : bufX a t win xs = -1 := by
  unfold bufX
  rw [List.find?_eq_none.2 (fun x hx => by simp [h x hx])]
theorem bufX_some {a : ByteArray} {t win : Int} {pre r : List BkE} {x : BkE} (h : ∀ y ∈ pre, hitB a t win y.2 = false) (hx : hitB a t win x.2 = true) : bufX a t win (pre ++ [x] ++ r) = x.1 := by
  unfold bufX
  rw [List.append_assoc, List.find?_append, List.find?_eq_none.2 (fun y hy => by simp [h y hy])]
  simp [hx]

end Go.Proofs.Ythkfpbknfjapaaa
