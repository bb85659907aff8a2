/-
  Runes of a text; free of the program.
-/
import Derived.Test.YtgbgnmjgnfocmaaDoorLeaf18
import Derived.Laws.RangeAny
namespace Go.Proofs.YtgbgnmjgnfocmaaDoor
open Go.ChangeShapes Go.WideShapes Go.ChangeAt Go.RowKit

set_option maxRecDepth 100000
set_option linter.unusedVariables false

/-- A byte of a text, as a number. -/
def byt (s : ByteArray) (i : Nat) : Int := ((s.get! i).toNat : Int)
theorem byt_bd (s : ByteArray) (i : Nat) : 0 ≤ byt s i ∧ byt s i ≤ 255 := by
  have := (s.get! i).toNat_lt
  unfold byt
  omega
theorem get_bang (s : ByteArray) (i : Nat) (h : i < s.size) : s.get! i = s[i]'h := get_at s i h
theorem byt_ix (s : ByteArray) (i : Nat) (h : i < s.size) : byt s i = (((s[i]'h).toNat : Nat) : Int) := by unfold byt; rw [get_bang s i h]
/-- The rune at a place of a text, and how many bytes it has. -/
abbrev runM (s : ByteArray) (i : Nat) : Nat × Nat := Utf8.decode s i
def b0 (s : ByteArray) : Int := byt s 0
section
variable {s : ByteArray}
theorem dec_nat (i : Nat) : ((s.get! i).toNat : Int) = byt s i := rfl
theorem run_ascii (h : byt s 0 < 128) : runM s 0 = ((byt s 0).toNat, 1) := by
  simp only [byt] at *
  simp only [Utf8.decode, Nat.zero_add]
  rw [if_pos (by omega)]
  simp
theorem run_none (h0 : 128 ≤ byt s 0 ∧ byt s 0 ≤ 193 ∨ 245 ≤ byt s 0) : runM s 0 = (65533, 1) := by
  have B0 := (s.get! 0).toNat_lt
  have B1 := (s.get! 1).toNat_lt
  have B2 := (s.get! 2).toNat_lt
  have B3 := (s.get! 3).toNat_lt
  simp only [byt] at *
  unfold runM Utf8.decode
  simp only [Utf8.valid, Utf8.runeError, Nat.zero_add]
  repeat' split
  all_goals simp only [Bool.and_eq_true, Bool.or_eq_true, decide_eq_true_eq, beq_iff_eq, Prod.mk.injEq, not_and] at *
  all_goals first | omega | (exfalso; omega) | (refine ⟨?_, ?_⟩ <;> first | omega | trivial)
theorem run2_short (h0 : 194 ≤ byt s 0 ∧ byt s 0 ≤ 223) (h1 : s.size < 2) : runM s 0 = (65533, 1) := by
  have B0 := (s.get! 0).toNat_lt
  have B1 := (s.get! 1).toNat_lt
  have B2 := (s.get! 2).toNat_lt
  have B3 := (s.get! 3).toNat_lt
  simp only [byt] at *
  unfold runM Utf8.decode
  simp only [Utf8.valid, Utf8.runeError, Nat.zero_add]
  repeat' split
  all_goals simp only [Bool.and_eq_true, Bool.or_eq_true, decide_eq_true_eq, beq_iff_eq, Prod.mk.injEq, not_and] at *
  all_goals first | omega | (exfalso; omega) | (refine ⟨?_, ?_⟩ <;> first | omega | trivial)
theorem run2_c1 (h0 : 194 ≤ byt s 0 ∧ byt s 0 ≤ 223) (h1 : byt s 1 < 128 ∨ 191 < byt s 1) : runM s 0 = (65533, 1) := by
  have B0 := (s.get! 0).toNat_lt
  have B1 := (s.get! 1).toNat_lt
  have B2 := (s.get! 2).toNat_lt
  have B3 := (s.get! 3).toNat_lt
  simp only [byt] at *
  unfold runM Utf8.decode
  simp only [Utf8.valid, Utf8.runeError, Nat.zero_add]
  repeat' split
  all_goals simp only [Bool.and_eq_true, Bool.or_eq_true, decide_eq_true_eq, beq_iff_eq, Prod.mk.injEq, not_and] at *
  all_goals first | omega | (exfalso; omega) | (refine ⟨?_, ?_⟩ <;> first | omega | trivial)
theorem run2_ok (h0 : 194 ≤ byt s 0 ∧ byt s 0 ≤ 223) (h1 : 2 ≤ s.size) (h2 : 128 ≤ byt s 1 ∧ byt s 1 ≤ 191) : runM s 0 = (((byt s 0 - 192) * 64 + byt s 1 - 128).toNat, 2) := by
  have B0 := (s.get! 0).toNat_lt
  have B1 := (s.get! 1).toNat_lt
  have B2 := (s.get! 2).toNat_lt
  have B3 := (s.get! 3).toNat_lt
  simp only [byt] at *
  unfold runM Utf8.decode
  simp only [Utf8.valid, Utf8.runeError, Nat.zero_add]
  repeat' split
  all_goals simp only [Bool.and_eq_true, Bool.or_eq_true, decide_eq_true_eq, beq_iff_eq, Prod.mk.injEq, not_and] at *
  all_goals first | omega | (exfalso; omega) | (refine ⟨?_, ?_⟩ <;> first | omega | trivial)
theorem run3_short (h0 : 224 ≤ byt s 0 ∧ byt s 0 ≤ 239) (h1 : s.size < 3) : runM s 0 = (65533, 1) := by
  have B0 := (s.get! 0).toNat_lt
  have B1 := (s.get! 1).toNat_lt
  have B2 := (s.get! 2).toNat_lt
  have B3 := (s.get! 3).toNat_lt
  simp only [byt] at *
  unfold runM Utf8.decode
  simp only [Utf8.valid, Utf8.runeError, Nat.zero_add]
  repeat' split
  all_goals simp only [Bool.and_eq_true, Bool.or_eq_true, decide_eq_true_eq, beq_iff_eq, Prod.mk.injEq, not_and] at *
  all_goals first | omega | (exfalso; omega) | (refine ⟨?_, ?_⟩ <;> first | omega | trivial)
theorem run3_c1 (h0 : 224 ≤ byt s 0 ∧ byt s 0 ≤ 239) (h1 : byt s 1 < 128 ∨ 191 < byt s 1) : runM s 0 = (65533, 1) := by
  have B0 := (s.get! 0).toNat_lt
  have B1 := (s.get! 1).toNat_lt
  have B2 := (s.get! 2).toNat_lt
  have B3 := (s.get! 3).toNat_lt
  simp only [byt] at *
  unfold runM Utf8.decode
  simp only [Utf8.valid, Utf8.runeError, Nat.zero_add]
  repeat' split
  all_goals simp only [Bool.and_eq_true, Bool.or_eq_true, decide_eq_true_eq, beq_iff_eq, Prod.mk.injEq, not_and] at *
  all_goals first | omega | (exfalso; omega) | (refine ⟨?_, ?_⟩ <;> first | omega | trivial)
theorem run3_c2 (h0 : 224 ≤ byt s 0 ∧ byt s 0 ≤ 239) (h1 : byt s 2 < 128 ∨ 191 < byt s 2) : runM s 0 = (65533, 1) := by
  have B0 := (s.get! 0).toNat_lt
  have B1 := (s.get! 1).toNat_lt
  have B2 := (s.get! 2).toNat_lt
  have B3 := (s.get! 3).toNat_lt
  simp only [byt] at *
  unfold runM Utf8.decode
  simp only [Utf8.valid, Utf8.runeError, Nat.zero_add]
  repeat' split
  all_goals simp only [Bool.and_eq_true, Bool.or_eq_true, decide_eq_true_eq, beq_iff_eq, Prod.mk.injEq, not_and] at *
  all_goals first | omega | (exfalso; omega) | (refine ⟨?_, ?_⟩ <;> first | omega | trivial)
theorem run3_low (h0 : 224 ≤ byt s 0 ∧ byt s 0 ≤ 239) (h1 : 128 ≤ byt s 1 ∧ byt s 1 ≤ 191) (h2 : 128 ≤ byt s 2 ∧ byt s 2 ≤ 191) (h3 : ((byt s 0 - 224) * 64 + byt s 1 - 128) * 64 + byt s 2 - 128 < 2048) : runM s 0 = (65533, 1) := by
  have B0 := (s.get! 0).toNat_lt
  have B1 := (s.get! 1).toNat_lt
  have B2 := (s.get! 2).toNat_lt
  have B3 := (s.get! 3).toNat_lt
  simp only [byt] at *
  unfold runM Utf8.decode
  simp only [Utf8.valid, Utf8.runeError, Nat.zero_add]
  repeat' split
  all_goals simp only [Bool.and_eq_true, Bool.or_eq_true, decide_eq_true_eq, beq_iff_eq, Prod.mk.injEq, not_and] at *
  all_goals first | omega | (exfalso; omega) | (refine ⟨?_, ?_⟩ <;> first | omega | trivial)
theorem run3_sur (h0 : 224 ≤ byt s 0 ∧ byt s 0 ≤ 239) (h1 : 128 ≤ byt s 1 ∧ byt s 1 ≤ 191) (h2 : 128 ≤ byt s 2 ∧ byt s 2 ≤ 191) (h3 : 55296 ≤ ((byt s 0 - 224) * 64 + byt s 1 - 128) * 64 + byt s 2 - 128 ∧ ((byt s 0 - 224) * 64 + byt s 1 - 128) * 64 + byt s 2 - 128 ≤ 57343) : runM s 0 = (65533, 1) := by
  have B0 := (s.get! 0).toNat_lt
  have B1 := (s.get! 1).toNat_lt
  have B2 := (s.get! 2).toNat_lt
  have B3 := (s.get! 3).toNat_lt
  simp only [byt] at *
  unfold runM Utf8.decode
  simp only [Utf8.valid, Utf8.runeError, Nat.zero_add]
  repeat' split
  all_goals simp only [Bool.and_eq_true, Bool.or_eq_true, decide_eq_true_eq, beq_iff_eq, Prod.mk.injEq, not_and] at *
  all_goals first | omega | (exfalso; omega) | (refine ⟨?_, ?_⟩ <;> first | omega | trivial)
theorem run3_ok (h0 : 224 ≤ byt s 0 ∧ byt s 0 ≤ 239) (h1 : 3 ≤ s.size) (h2 : 128 ≤ byt s 1 ∧ byt s 1 ≤ 191) (h3 : 128 ≤ byt s 2 ∧ byt s 2 ≤ 191) (h4 : ¬ ((byt s 0 - 224) * 64 + byt s 1 - 128) * 64 + byt s 2 - 128 < 2048) (h5 : ¬ (55296 ≤ ((byt s 0 - 224) * 64 + byt s 1 - 128) * 64 + byt s 2 - 128 ∧ ((byt s 0 - 224) * 64 + byt s 1 - 128) * 64 + byt s 2 - 128 ≤ 57343)) : runM s 0 = ((((byt s 0 - 224) * 64 + byt s 1 - 128) * 64 + byt s 2 - 128).toNat, 3) := by
  have B0 := (s.get! 0).toNat_lt
  have B1 := (s.get! 1).toNat_lt
  have B2 := (s.get! 2).toNat_lt
  have B3 := (s.get! 3).toNat_lt
  simp only [byt] at *
  unfold runM Utf8.decode
  simp only [Utf8.valid, Utf8.runeError, Nat.zero_add]
  repeat' split
  all_goals simp only [Bool.and_eq_true, Bool.or_eq_true, decide_eq_true_eq, beq_iff_eq, Prod.mk.injEq, not_and] at *
  all_goals first | omega | (exfalso; omega) | (refine ⟨?_, ?_⟩ <;> first | omega | trivial)
theorem run4_short (h0 : 240 ≤ byt s 0 ∧ byt s 0 ≤ 244) (h1 : s.size < 4) : runM s 0 = (65533, 1) := by
  have B0 := (s.get! 0).toNat_lt
  have B1 := (s.get! 1).toNat_lt
  have B2 := (s.get! 2).toNat_lt
  have B3 := (s.get! 3).toNat_lt
  simp only [byt] at *
  unfold runM Utf8.decode
  simp only [Utf8.valid, Utf8.runeError, Nat.zero_add]
  repeat' split
  all_goals simp only [Bool.and_eq_true, Bool.or_eq_true, decide_eq_true_eq, beq_iff_eq, Prod.mk.injEq, not_and] at *
  all_goals first | omega | (exfalso; omega) | (refine ⟨?_, ?_⟩ <;> first | omega | trivial)
theorem run4_c1 (h0 : 240 ≤ byt s 0 ∧ byt s 0 ≤ 244) (h1 : byt s 1 < 128 ∨ 191 < byt s 1) : runM s 0 = (65533, 1) := by
  have B0 := (s.get! 0).toNat_lt
  have B1 := (s.get! 1).toNat_lt
  have B2 := (s.get! 2).toNat_lt
  have B3 := (s.get! 3).toNat_lt
  simp only [byt] at *
  unfold runM Utf8.decode
  simp only [Utf8.valid, Utf8.runeError, Nat.zero_add]
  repeat' split
  all_goals simp only [Bool.and_eq_true, Bool.or_eq_true, decide_eq_true_eq, beq_iff_eq, Prod.mk.injEq, not_and] at *
  all_goals first | omega | (exfalso; omega) | (refine ⟨?_, ?_⟩ <;> first | omega | trivial)
theorem run4_c2 (h0 : 240 ≤ byt s 0 ∧ byt s 0 ≤ 244) (h1 : byt s 2 < 128 ∨ 191 < byt s 2) : runM s 0 = (65533, 1) := by
  have B0 := (s.get! 0).toNat_lt
  have B1 := (s.get! 1).toNat_lt
  have B2 := (s.get! 2).toNat_lt
  have B3 := (s.get! 3).toNat_lt
  simp only [byt] at *
  unfold runM Utf8.decode
  simp only [Utf8.valid, Utf8.runeError, Nat.zero_add]
  repeat' split
  all_goals simp only [Bool.and_eq_true, Bool.or_eq_true, decide_eq_true_eq, beq_iff_eq, Prod.mk.injEq, not_and] at *
  all_goals first | omega | (exfalso; omega) | (refine ⟨?_, ?_⟩ <;> first | omega | trivial)
theorem run4_c3 (h0 : 240 ≤ byt s 0 ∧ byt s 0 ≤ 244) (h1 : byt s 3 < 128 ∨ 191 < byt s 3) : runM s 0 = (65533, 1) := by
  have B0 := (s.get! 0).toNat_lt
  have B1 := (s.get! 1).toNat_lt
  have B2 := (s.get! 2).toNat_lt
  have B3 := (s.get! 3).toNat_lt
  simp only [byt] at *
  unfold runM Utf8.decode
  simp only [Utf8.valid, Utf8.runeError, Nat.zero_add]
  repeat' split
  all_goals simp only [Bool.and_eq_true, Bool.or_eq_true, decide_eq_true_eq, beq_iff_eq, Prod.mk.injEq, not_and] at *
  all_goals first | omega | (exfalso; omega) | (refine ⟨?_, ?_⟩ <;> first | omega | trivial)
theorem run4_out (h0 : 240 ≤ byt s 0 ∧ byt s 0 ≤ 244) (h1 : 128 ≤ byt s 1 ∧ byt s 1 ≤ 191) (h2 : 128 ≤ byt s 2 ∧ byt s 2 ≤ 191) (h3 : 128 ≤ byt s 3 ∧ byt s 3 ≤ 191) (h4 : ¬ (65536 ≤ (((byt s 0 - 240) * 64 + byt s 1 - 128) * 64 + byt s 2 - 128) * 64 + byt s 3 - 128 ∧ (((byt s 0 - 240) * 64 + byt s 1 - 128) * 64 + byt s 2 - 128) * 64 + byt s 3 - 128 ≤ 1114111)) : runM s 0 = (65533, 1) := by
  have B0 := (s.get! 0).toNat_lt
  have B1 := (s.get! 1).toNat_lt
  have B2 := (s.get! 2).toNat_lt
  have B3 := (s.get! 3).toNat_lt
  simp only [byt] at *
  unfold runM Utf8.decode
  simp only [Utf8.valid, Utf8.runeError, Nat.zero_add]
  repeat' split
  all_goals simp only [Bool.and_eq_true, Bool.or_eq_true, decide_eq_true_eq, beq_iff_eq, Prod.mk.injEq, not_and] at *
  all_goals first | omega | (exfalso; omega) | (refine ⟨?_, ?_⟩ <;> first | omega | trivial)
theorem run4_ok (h0 : 240 ≤ byt s 0 ∧ byt s 0 ≤ 244) (h1 : 4 ≤ s.size) (h2 : 128 ≤ byt s 1 ∧ byt s 1 ≤ 191) (h3 : 128 ≤ byt s 2 ∧ byt s 2 ≤ 191) (h4 : 128 ≤ byt s 3 ∧ byt s 3 ≤ 191) (h5 : 65536 ≤ (((byt s 0 - 240) * 64 + byt s 1 - 128) * 64 + byt s 2 - 128) * 64 + byt s 3 - 128 ∧ (((byt s 0 - 240) * 64 + byt s 1 - 128) * 64 + byt s 2 - 128) * 64 + byt s 3 - 128 ≤ 1114111) : runM s 0 = (((((byt s 0 - 240) * 64 + byt s 1 - 128) * 64 + byt s 2 - 128) * 64 + byt s 3 - 128).toNat, 4) := by
  have B0 := (s.get! 0).toNat_lt
  have B1 := (s.get! 1).toNat_lt
  have B2 := (s.get! 2).toNat_lt
  have B3 := (s.get! 3).toNat_lt
  simp only [byt] at *
  unfold runM Utf8.decode
  simp only [Utf8.valid, Utf8.runeError, Nat.zero_add]
  repeat' split
  all_goals simp only [Bool.and_eq_true, Bool.or_eq_true, decide_eq_true_eq, beq_iff_eq, Prod.mk.injEq, not_and] at *
  all_goals first | omega | (exfalso; omega) | (refine ⟨?_, ?_⟩ <;> first | omega | trivial)
end
theorem ext_get (s : ByteArray) (i k : Nat) : (s.extract i s.size).get! k = s.get! (i + k) := by
  by_cases h : i + k < s.size
  · have h' : k < (s.extract i s.size).size := by rw [ByteArray.size_extract]; omega
    rw [get_bang _ _ h', get_bang _ _ h]
    exact ByteArray.getElem_extract _
  · have h' : ¬ k < (s.extract i s.size).size := by rw [ByteArray.size_extract]; omega
    have e : ∀ (t : ByteArray) (j : Nat), ¬ j < t.size → t.get! j = default := fun t j hj => by
      cases t with
      | mk d => exact getElem!_neg d j hj
    rw [e _ _ h', e _ _ h]
/-- What stands at the front of a text's rest is what stands at that place. -/
theorem run_ext (s : ByteArray) (i : Nat) (h : i ≤ s.size) : runM (s.extract i s.size) 0 = runM s i := by
  have e1 : ∀ k, (decide (k < (s.extract i s.size).size)) = decide (i + k < s.size) := fun k => by
    rw [ByteArray.size_extract, Bool.eq_iff_iff]
    simp
    omega
  unfold runM Utf8.decode
  simp only [ext_get, e1, Nat.zero_add]
theorem wid_pos (s : ByteArray) (i : Nat) (h : i < s.size) : 1 ≤ (runM s i).2 := by
  by_cases ha : (s[i]'h).toNat < 128
  · unfold runM; rw [decode_ascii s i h ha]
    exact Nat.le_refl _
  · exact (decode_high s i h (by omega)).2
theorem wid_le (s : ByteArray) (i : Nat) (h : i < s.size) : i + (runM s i).2 ≤ s.size := by
  unfold runM Utf8.decode
  dsimp only
  repeat' split
  all_goals simp only [Bool.and_eq_true, decide_eq_true_eq, beq_iff_eq] at *
  all_goals omega
theorem run_le (s : ByteArray) (i : Nat) : (runM s i).1 ≤ 1114111 := by
  have h0 := (s.get! (i + 0)).toNat_lt
  have h1 := (s.get! (i + 1)).toNat_lt
  have h2 := (s.get! (i + 2)).toNat_lt
  have h3 := (s.get! (i + 3)).toNat_lt
  unfold runM Utf8.decode
  dsimp only
  unfold Utf8.valid Utf8.runeError
  repeat' split
  all_goals simp only [Bool.and_eq_true, Bool.or_eq_true, decide_eq_true_eq, beq_iff_eq] at *
  all_goals omega
/-- The runes from a place on. -/
def runesF (s : ByteArray) : Nat → Nat → List Int
  | 0, _ => []
  | b + 1, p => if p < s.size then ((runM s p).1 : Int) :: runesF s b (p + (runM s p).2) else []
theorem runesF_end (s : ByteArray) (b p : Nat) (h : ¬ p < s.size) : runesF s b p = [] := by
  cases b with
  | zero => rfl
  | succ b => simp [runesF, h]
theorem runesF_step (s : ByteArray) (b p : Nat) (h : p < s.size) : runesF s (b + 1) p = ((runM s p).1 : Int) :: runesF s b (p + (runM s p).2) := by simp [runesF, h]

end Go.Proofs.YtgbgnmjgnfocmaaDoor
