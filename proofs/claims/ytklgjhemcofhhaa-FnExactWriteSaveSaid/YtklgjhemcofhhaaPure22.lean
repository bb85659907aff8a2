/-
  A save as bytes: free of the program.
-/
import Derived.Test.YtklgjhemcofhhaaLeaf22
import Derived.Test.YtklgjhemcofhhaaVal
import Derived.Test.YtklgjhemcofhhaaByt
namespace Go.Proofs.Ytklgjhemcofhhaa
open Go.ChangeShapes Go.WideShapes Go.ChangeAt Go.RowKit

set_option maxRecDepth 100000
set_option linter.unusedVariables false
set_option linter.unusedSimpArgs false

/-- The digest of bytes: by steps of one byte each. -/
def digStep (n : Nat) (b : UInt8) : Nat := (n ^^^ b.toNat) * 16777619 % 4294967296
def digN (l : List UInt8) : Nat := l.foldl digStep 2166136261
theorem digStep_lt (n : Nat) (b : UInt8) : digStep n b < 4294967296 := by
  unfold digStep
  exact Nat.mod_lt _ (by omega)
theorem digFold_lt : ∀ (l : List UInt8) (n : Nat), n < 4294967296 → l.foldl digStep n < 4294967296
  | [], n, h => h
  | b :: l, n, _ => digFold_lt l _ (digStep_lt n b)
theorem digN_lt (l : List UInt8) : digN l < 4294967296 := by
  unfold digN
  exact digFold_lt l _ (by omega)
theorem dig_fold (b : UInt8) : ∀ (l : List UInt8) (n : Nat), (l ++ [b]).foldl digStep n = digStep (l.foldl digStep n) b
  | [], _ => by rw [List.nil_append, List.foldl_cons, List.foldl_nil, List.foldl_nil]
  | a :: l, n => by rw [List.cons_append, List.foldl_cons, List.foldl_cons, dig_fold b l]
theorem digN_snoc (l : List UInt8) (b : UInt8) : digN (l ++ [b]) = digStep (digN l) b := by
  have h := dig_fold b l 2166136261
  unfold digN
  exact h
/-- A number's byte k, the lowest first. -/
def numByte (n : Int) (k : Nat) : UInt8 := UInt8.ofNat ((n / (2 ^ (8 * k) : Nat)) % 256).toNat
def numBytes (n : Int) : List UInt8 := (List.range 8).map (numByte n)
def fourB (d : Nat) : List UInt8 := [UInt8.ofNat (d / 16777216), UInt8.ofNat (d / 65536), UInt8.ofNat (d / 256), UInt8.ofNat d]
def textB (s : ByteArray) : List UInt8 := UInt8.ofNat s.size :: s.data.toList
def valueB (d : ValD) : List UInt8 := textB d.1 ++ (numBytes d.2.1 ++ textB d.2.2)
def bodyB (version : Int) (l : List ValD) : List UInt8 := [83, 65, 86, 69, UInt8.ofNat version.toNat, UInt8.ofNat l.length] ++ l.flatMap valueB
def saveB (version : Int) (l : List ValD) : List UInt8 := bodyB version l ++ fourB (digN (bodyB version l))
theorem textB_len (s : ByteArray) : (textB s).length = s.size + 1 := by
  unfold textB
  rw [List.length_cons, Array.length_toList]
  rfl
theorem numBytes_len (n : Int) : (numBytes n).length = 8 := by
  unfold numBytes
  rw [List.length_map, List.length_range]
theorem valueB_len (d : ValD) : (valueB d).length = d.1.size + d.2.2.size + 10 := by
  simp only [valueB, List.length_append, textB_len, numBytes_len]
  omega
theorem body_snoc (v : Int) (h : List UInt8) (l : List ValD) (d : ValD) : h ++ (l ++ [d]).flatMap valueB = (h ++ l.flatMap valueB) ++ valueB d := by simp
theorem flat_value_len (l : List ValD) (h : ∀ d ∈ l, d.1.size ≤ 20 ∧ d.2.2.size ≤ 100) : (l.flatMap valueB).length ≤ 130 * l.length := by
  induction l with
  | nil => simp
  | cons a t ih =>
    rw [List.flatMap_cons, List.length_append, List.length_cons, valueB_len]
    have h1 := h a (by simp)
    have h2 := ih (fun d hd => h d (by simp [hd]))
    omega
/-- Good values make at most 3910 bytes. -/
theorem save_len {v : Int} {l : List ValD} (h : ValsP l) : (saveB v l).length ≤ 3910 := by
  have hn : l.length ≤ 30 := by have := h.2.1; rwa [namesOf_len] at this
  have hs : ∀ d ∈ l, d.1.size ≤ 20 ∧ d.2.2.size ≤ 100 := fun d hd => by
    refine ⟨?_, h.1 d hd⟩
    obtain ⟨j, hj⟩ := List.mem_iff_getElem?.1 hd
    have hk := h.2.2 j (by rw [namesOf_len]; exact (List.getElem?_eq_some_iff.1 hj).1)
    by_cases hb : nameB d.1 = true
    · exact ((nameB_iff d.1).1 hb).2.1
    · exact absurd hk (key_no (namesOf_get hj) (by simpa using hb))
  have := flat_value_len l hs
  simp only [saveB, bodyB, fourB, List.length_append, List.length_cons, List.length_nil]
  omega

end Go.Proofs.Ytklgjhemcofhhaa
