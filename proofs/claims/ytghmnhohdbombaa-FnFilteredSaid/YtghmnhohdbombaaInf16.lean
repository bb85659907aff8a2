/-
  What is infinite stays so through products, sums and differences; noughts with a sign. Free of the program.
-/
import Derived.Test.YtghmnhohdbombaaFloat
namespace Go.Proofs.Ytghmnhohdbombaa
open Ieee

def finO (o : Option Nat) : Bool := match o with
  | some x => fin x
  | none => false
def plainO (o : Option Nat) : Nat := match o with
  | some x => plain x
  | none => 0
theorem finO_nrm (x : Nat) : finO (nrm x) = fin x := by
  unfold nrm
  cases h : nanB x with
  | true => simp [finO, fin, nanB] at *; omega
  | false => simp [finO]
theorem fin_word (s : Bool) : fin (double.write (.infinity s)) = false := by
  have e : double.write (.infinity s) = double.word s 9218868437227405312 := rfl
  rw [e, fin, (word_read s 9218868437227405312 (by omega)).1]
  rfl
def Bad (d : Datum) : Prop := ∀ s m e, d ≠ .number s m e
theorem bad_of {x : Nat} (h : fin x = false) : Bad (double.read x) := by
  intro s m e
  rcases read_cases x with ⟨m', e', hq, hy1, _⟩ | ⟨hq, _⟩ | ⟨t, hq, _⟩
  · simp [fin] at h; omega
  · rw [hq]; simp
  · rw [hq]; simp
theorem bad_inf {d : Datum} (h : Bad d) : finO (some d |>.map double.write) = false ∨ d.isNaN = true := by
  cases d with
  | number s m e => exact absurd rfl (h s m e)
  | infinity s => exact .inl (fin_word s)
  | nan => exact .inr rfl
theorem sum_bad {a b d : Datum} (h : Bad a ∨ Bad b) (e : a.sum b = some d) : Bad d := by
  intro s m x
  cases a <;> cases b <;> simp [Datum.sum] at e
  · rcases h with h | h <;> exact absurd rfl (h _ _ _)
  · rw [← e]; simp
  · rw [← e]; simp
  · rw [← e.2]; simp
theorem prod_bad {a b d : Datum} (h : Bad a ∨ Bad b) (e : a.product b = some d) : Bad d := by
  intro s m x
  cases a <;> cases b <;> simp [Datum.product] at e
  · rcases h with h | h <;> exact absurd rfl (h _ _ _)
  all_goals first | (rw [← e]; simp; done) | (rw [← e.2]; simp; done)
theorem bad_opp {a : Datum} (h : Bad a) : Bad a.opposite := by
  cases a with
  | number s m e => exact absurd rfl (h s m e)
  | infinity s => intro a b c; simp [Datum.opposite]
  | nan => intro a b c; simp [Datum.opposite]
theorem out_bad {d : Datum} (h : Bad d) (hn : d.isNaN = false) : fin (double.write d) = false := by
  cases d with
  | number s m e => exact absurd rfl (h s m e)
  | infinity s => exact fin_word s
  | nan => simp [Datum.isNaN] at hn
theorem bits_bad {op : BinOp} (hop : op = .add ∨ op = .sub ∨ op = .mul) {x y r : Nat} (h : fin x = false ∨ fin y = false) (e : floatBits op .f64 x y = some r) : fin r = false := by
  have hb : Bad (double.read x) ∨ Bad (double.read y) := h.imp bad_of bad_of
  rcases hop with rfl | rfl | rfl
  · have e2 : ((double.read x).sum (double.read y)).map double.write = some r := e
    cases hd : (double.read x).sum (double.read y) with
    | none => rw [hd] at e2; cases e2
    | some d => rw [hd] at e2; cases e2; exact out_bad (sum_bad hb hd) (sum_nan hd).2.2
  · have e2 : ((double.read x).sum (double.read y).opposite).map double.write = some r := e
    cases hd : (double.read x).sum (double.read y).opposite with
    | none => rw [hd] at e2; cases e2
    | some d => rw [hd] at e2; cases e2; exact out_bad (sum_bad (hb.imp id bad_opp) hd) (sum_nan hd).2.2
  · have e2 : ((double.read x).product (double.read y)).map double.write = some r := e
    cases hd : (double.read x).product (double.read y) with
    | none => rw [hd] at e2; cases e2
    | some d => rw [hd] at e2; cases e2; exact out_bad (prod_bad hb hd) (product_nan hd).2.2
theorem op_bad {op : BinOp} (hop : op = .add ∨ op = .sub ∨ op = .mul) {a b : Option Nat} (h : finO a = false ∨ finO b = false) : finO (opN op a b) = false := by
  cases a with
  | none => rfl
  | some x =>
    cases b with
    | none => rfl
    | some y =>
      show finO (floatBits op .f64 x y) = false
      cases e : floatBits op .f64 x y with
      | none => rfl
      | some r => exact bits_bad hop h e
theorem add_bad {a b : Option Nat} (h : finO a = false ∨ finO b = false) : finO (opN .add a b) = false := op_bad (.inl rfl) h
theorem sub_bad {a b : Option Nat} (h : finO a = false ∨ finO b = false) : finO (opN .sub a b) = false := op_bad (.inr (.inl rfl)) h
theorem mul_bad {a b : Option Nat} (h : finO a = false ∨ finO b = false) : finO (opN .mul a b) = false := op_bad (.inr (.inr rfl)) h
/-- A float that is not the nought with a sign, up to which NaN. -/
def Plain (o : Option Nat) : Prop := ∀ x, o = some x → x ≠ 9223372036854775808
theorem opN_plain {a b : Option Nat} (ha : ∀ x, a = some x → x < 18446744073709551616) (h : Plain a) : Plain (opN .add a b) := by
  intro r hr
  cases a with
  | none => simp [opN] at hr
  | some x =>
    cases b with
    | none => simp [opN] at hr
    | some y => exact add_plain (ha x rfl) (h x rfl) hr
theorem opN_plain' {a b : Option Nat} (hb : ∀ x, b = some x → x < 18446744073709551616) (h : Plain b) : Plain (opN .add a b) := by
  rw [opN_add_comm]; exact opN_plain hb h
theorem plain_same {r : Nat} (h : r < 18446744073709551616) (hn : r ≠ 9223372036854775808) : plain r = r := by
  unfold plain
  cases hz : zeroB r
  · rfl
  · simp only [zeroB, decide_eq_true_eq] at hz
    simp only [if_true]
    omega
theorem plain_lt {r : Nat} (h : r < 18446744073709551616) : plain r < 18446744073709551616 := by
  unfold plain; split <;> omega
theorem good_plain {r : Nat} (_ : r < 18446744073709551616) : good (plain r) = fin r := by
  unfold plain good
  cases hz : zeroB r
  · simp only [zeroB, decide_eq_false_iff_not] at hz ⊢
    have : r ≠ 9223372036854775808 := by omega
    simp [this]
  · simp only [zeroB, decide_eq_true_eq] at hz
    simp [fin, hz]
/-- A square has no sign. -/
theorem square_plain (x : Nat) : Plain (opN .mul (nrm x) (nrm x)) := by
  intro r hr
  unfold nrm opN at hr
  cases hn : nanB x with
  | true => simp [hn] at hr
  | false =>
    simp only [hn] at hr
    have h : ((double.read x).product (double.read x)).map double.write = some r := hr
    rcases read_cases x with ⟨m, e, hq, _⟩ | ⟨hq, _⟩ | ⟨t, hq, _⟩
    · rw [hq] at h
      simp only [Datum.product, Bool.xor_self, Option.map_some, Option.some.injEq, Format.write] at h
      obtain ⟨q, hq1, hq2, _⟩ := nearest_word false (m * m) (e + e)
      rw [hq1] at h
      have : double.word false q = q := rfl
      omega
    · rw [hq] at h
      simp only [Datum.product, Bool.xor_self, Option.map_some, Option.some.injEq, Format.write] at h
      rw [← h]; decide
    · rw [hq] at h; simp [Datum.product] at h
end Go.Proofs.Ytghmnhohdbombaa
