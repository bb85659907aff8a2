/-
  Plain facts on the bits of floats of 64 bits: which are finite, how they are compared, that a sum of floats that are no nought with a sign is none, that a product's sign can be moved out.
-/
import Derived.Laws.FloatArith
import Derived.WalkLawsBesides
import Derived.Deep.Draws
namespace Go.Proofs.Ytghmnhohdbombaa
open Ieee

def infB : Nat := 9218868437227405312
def fin (x : Nat) : Bool := decide (x % 9223372036854775808 < 9218868437227405312)
def nanB (x : Nat) : Bool := decide (9218868437227405312 < x % 9223372036854775808)
def zeroB (x : Nat) : Bool := decide (x % 9223372036854775808 = 0)
def good (x : Nat) : Bool := fin x && decide (x ≠ 9223372036854775808)
def plain (x : Nat) : Nat := if zeroB x then 0 else x

theorem read_double (x : Nat) : double.read x =
    (if x % 9223372036854775808 < 4503599627370496 then .number (x / 9223372036854775808 % 2 == 1) (x % 9223372036854775808) (-1074)
    else if x % 9223372036854775808 < 9218868437227405312 then
      .number (x / 9223372036854775808 % 2 == 1) (4503599627370496 + x % 9223372036854775808 % 4503599627370496) (-1074 + (x % 9223372036854775808 / 4503599627370496 - 1 : Nat))
    else if x % 9223372036854775808 = 9218868437227405312 then .infinity (x / 9223372036854775808 % 2 == 1)
    else .nan (x / 9223372036854775808 % 2 == 1) (x % 9223372036854775808 - 9218868437227405312)) := rfl

theorem read_cases (x : Nat) :
    (∃ m e, double.read x = .number (x / 9223372036854775808 % 2 == 1) m e ∧ x % 9223372036854775808 < 9218868437227405312 ∧ -1074 ≤ e ∧ e ≤ 971 ∧ m < 9007199254740992 ∧ (m = 0 ↔ x % 9223372036854775808 = 0)) ∨
    (double.read x = .infinity (x / 9223372036854775808 % 2 == 1) ∧ x % 9223372036854775808 = 9218868437227405312) ∨
    (∃ t, double.read x = .nan (x / 9223372036854775808 % 2 == 1) t ∧ 9218868437227405312 < x % 9223372036854775808) := by
  rw [read_double]
  split
  · left; exact ⟨_, _, rfl, by omega, by omega, by omega, by omega, Iff.rfl⟩
  · split
    · left; exact ⟨_, _, rfl, by omega, by omega, by omega, by omega, by omega⟩
    · split
      · right; left; exact ⟨rfl, by omega⟩
      · right; right; exact ⟨_, rfl, by omega⟩

theorem order_self (x : Nat) : (double.order x x != some .eq) = nanB x := by
  unfold Format.order nanB
  rcases read_cases x with ⟨m, e, h, hx, _⟩ | ⟨h, hx⟩ | ⟨t, h, hx⟩
  · rw [h]; simp [Datum.order]; omega
  · rw [h]; simp [Datum.order]; omega
  · rw [h]; simp [Datum.order, hx]

theorem cmp_gt (a b : Int) : (some (compare a b) == some Ordering.gt) = decide (b < a) := by
  simp only [compare, compareOfLessAndEq]
  by_cases h : a < b
  · have : ¬ b < a := by omega
    simp [h, this]
  · by_cases h2 : a = b
    · subst h2; simp
    · have : b < a := by omega
      simp [h, h2, this]
theorem cmp_eq (a b : Int) : (some (compare a b) == some Ordering.eq) = decide (a = b) := by
  simp only [compare, compareOfLessAndEq]
  by_cases h : a < b
  · have : ¬ a = b := by omega
    simp [h, this]
  · by_cases h2 : a = b
    · subst h2; simp
    · simp [h, h2]

theorem signed_zero (s : Bool) (m k : Nat) : signed s m k = 0 ↔ m = 0 := by
  unfold signed
  cases s <;> simp

theorem order_zero (x : Nat) : (double.order x 0 == some .eq) = zeroB x := by
  unfold Format.order zeroB
  have h0 : double.read 0 = .number false 0 (-1074) := rfl
  rw [h0]
  rcases read_cases x with ⟨m, e, h, hx, he, _, _, hm⟩ | ⟨h, hx⟩ | ⟨t, h, hx⟩
  · rw [h]
    simp only [Datum.order]
    have z : signed false 0 (-1074 - min e (-1074)).toNat = 0 := (signed_zero _ _ _).2 rfl
    rw [z]
    by_cases hz : m = 0
    · have := hm.1 hz
      subst hz
      rw [(signed_zero _ _ _).2 rfl]
      simp [this]
    · have h1 : signed (x / 9223372036854775808 % 2 == 1) m (e - min e (-1074)).toNat ≠ 0 := fun h => hz ((signed_zero _ _ _).1 h)
      have h2 : x % 9223372036854775808 ≠ 0 := fun h => hz (hm.2 h)
      rw [cmp_eq]; simp [h1, h2]
  · rw [h]; simp only [Datum.order]; cases (x / 9223372036854775808 % 2 == 1) <;> simp <;> omega
  · rw [h]; simp [Datum.order]; omega

/-- Held against the greatest float: greater is only what is infinite (a number without its sign). -/
theorem order_max (x : Nat) (hx : x < 9223372036854775808) (hn : nanB x = false) : (double.order x 9218868437227405311 == some .gt) = !fin x := by
  unfold Format.order
  have h0 : double.read 9218868437227405311 = .number false 9007199254740991 971 := by rw [read_double]; simp
  rw [h0]
  have hs : (x / 9223372036854775808 % 2 == 1) = false := by
    have : x / 9223372036854775808 = 0 := Nat.div_eq_of_lt hx
    simp [this]
  rcases read_cases x with ⟨m, e, h, hf, he, he2, hm, _⟩ | ⟨h, hf⟩ | ⟨t, h, hf⟩
  · rw [h, hs]
    simp only [Datum.order]
    have hb : min e 971 = e := by omega
    have : fin x = true := by simp [fin, hf]
    rw [this, hb]
    have e0 : (e - e).toNat = 0 := by omega
    rw [e0]
    have := Nat.two_pow_pos (971 - e).toNat
    have h2 : m <<< 0 ≤ 9007199254740991 <<< (971 - e).toNat := by
      rw [Nat.shiftLeft_eq, Nat.shiftLeft_eq]
      calc m * 2 ^ 0 ≤ 9007199254740991 * 1 := by omega
        _ ≤ _ := Nat.mul_le_mul_left _ this
    rw [cmp_gt]
    have h3 : signed false m 0 ≤ signed false 9007199254740991 (971 - e).toNat := Int.ofNat_le.2 h2
    simp only [Bool.not_true, decide_eq_false_iff_not]
    omega
  · rw [h, hs]; simp [Datum.order, fin]; omega
  · simp [nanB] at hn; omega


/-- The bits, where they are no NaN. -/
def nrm (x : Nat) : Option Nat := if nanB x then none else some x
def opN (op : BinOp) (a b : Option Nat) : Option Nat := a.bind fun x => b.bind fun y => floatBits op .f64 x y
/-- The same sign turned round. -/
def flip (x : Nat) : Nat := Op.negFloat .f64 x

theorem word_double (s : Bool) (r : Nat) : double.word s r = if s then 9223372036854775808 + r else r := rfl
theorem word_read (s : Bool) (r : Nat) (h : r < 9223372036854775808) : double.word s r % 9223372036854775808 = r ∧ (double.word s r / 9223372036854775808 % 2 == 1) = s ∧ double.word s r < 18446744073709551616 := by
  rw [word_double]
  cases s
  · refine ⟨by simp; omega, ?_, by simp; omega⟩
    have : r / 9223372036854775808 = 0 := Nat.div_eq_of_lt h
    simp [this]
  · refine ⟨by simp; omega, ?_, by simp; omega⟩
    have : (9223372036854775808 + r) / 9223372036854775808 = 1 := by omega
    simp [this]

theorem nearest_word (s : Bool) (m : Nat) (e : Int) : ∃ r, double.nearest s m e = double.word s r ∧ r ≤ 9218868437227405312 ∧ (∀ t, double.nearest t m e = double.word t r) := by
  unfold Format.nearest
  dsimp only
  split
  · exact ⟨0, rfl, by omega, fun _ => rfl⟩
  · exact ⟨_, rfl, Nat.min_le_right _ _, fun _ => rfl⟩

theorem write_nan (d : Datum) (h : d.isNaN = false) : nanB (double.write d) = false ∧ double.write d < 18446744073709551616 := by
  cases d with
  | number s m e =>
    obtain ⟨r, hr, hl, _⟩ := nearest_word s m e
    simp only [Format.write, hr]
    obtain ⟨h1, _, h3⟩ := word_read s r (by omega)
    exact ⟨by simp [nanB, h1]; omega, h3⟩
  | infinity s =>
    simp only [Format.write]
    have : double.infRung = 9218868437227405312 := rfl
    rw [this]
    obtain ⟨h1, _, h3⟩ := word_read s 9218868437227405312 (by omega)
    exact ⟨by simp [nanB, h1], h3⟩
  | nan s t => simp [Datum.isNaN] at h

theorem read_nan (x : Nat) : (double.read x).isNaN = nanB x := by
  rcases read_cases x with ⟨m, e, h, hx, _⟩ | ⟨h, hx⟩ | ⟨t, h, hx⟩ <;> rw [h] <;> simp [Datum.isNaN, nanB] <;> omega

theorem sum_nan {a b d : Datum} (h : a.sum b = some d) : a.isNaN = false ∧ b.isNaN = false ∧ d.isNaN = false := by
  cases a <;> cases b <;> simp only [Datum.sum] at h <;> (try cases h) <;> (try simp [Datum.isNaN])
  split at h <;> cases h
  simp
theorem product_nan {a b d : Datum} (h : a.product b = some d) : a.isNaN = false ∧ b.isNaN = false ∧ d.isNaN = false := by
  cases a <;> cases b <;> simp only [Datum.product] at h <;> (try cases h) <;> (try simp [Datum.isNaN])
  all_goals (split at h <;> cases h; simp)
theorem quotient_nan {n : Nat} {a b d : Datum} (h : a.quotient n b = some d) : a.isNaN = false ∧ b.isNaN = false ∧ d.isNaN = false := by
  cases a <;> cases b <;> simp only [Datum.quotient] at h <;> (try cases h) <;> (try simp [Datum.isNaN])
  split at h
  · split at h
    · cases h
    · cases h; simp
  · cases h; simp
theorem opposite_nan (a : Datum) : a.opposite.isNaN = a.isNaN := by cases a <;> rfl

theorem floatBits_nan {op : BinOp} {x y r : Nat} (h : floatBits op .f64 x y = some r) : nanB x = false ∧ nanB y = false ∧ nanB r = false ∧ r < 18446744073709551616 := by
  have key : ∀ {o : Option Datum} {a b : Datum}, o.map double.write = some r → (∀ d, o = some d → a.isNaN = false ∧ b.isNaN = false ∧ d.isNaN = false) → a.isNaN = false ∧ b.isNaN = false ∧ nanB r = false ∧ r < 18446744073709551616 := by
    intro o a b h hd
    cases o with
    | none => cases h
    | some d =>
      cases h
      obtain ⟨h1, h2, h3⟩ := hd d rfl
      exact ⟨h1, h2, write_nan d h3⟩
  rw [← read_nan, ← read_nan]
  unfold floatBits at h
  split at h
  · exact key (a := double.read x) (b := double.read y) h (fun d hd => sum_nan hd)
  · have := key (a := double.read x) (b := (double.read y).opposite) h (fun d hd => sum_nan hd)
    rwa [opposite_nan] at this
  · exact key (a := double.read x) (b := double.read y) h (fun d hd => product_nan hd)
  · exact key (a := double.read x) (b := double.read y) h (fun d hd => quotient_nan hd)
  · cases h


theorem flip_low (x : Nat) (h : x < 9223372036854775808) : flip x = 9223372036854775808 + x := by
  have e : flip x = x ^^^ 2 ^ 63 := rfl
  have e2 : 9223372036854775808 + x = 2 ^ 63 + x := rfl
  rw [e, e2]
  apply Nat.eq_of_testBit_eq
  intro j
  rw [Nat.testBit_xor]
  rcases Nat.lt_trichotomy j 63 with hj | hj | hj
  · rw [Nat.testBit_two_pow_add_gt hj, Nat.testBit_two_pow_of_ne (by omega), Bool.xor_false]
  · subst hj
    rw [Nat.testBit_two_pow_add_eq, Nat.testBit_two_pow_self, Bool.xor_true]
  · have hp : 2 ^ 64 ≤ 2 ^ j := Nat.pow_le_pow_right (by omega) hj
    rw [Nat.testBit_two_pow_of_ne (by omega), Nat.testBit_lt_two_pow (by omega), Nat.testBit_lt_two_pow (by omega), Bool.xor_false]
theorem flip_flip (x : Nat) : flip (flip x) = x := by
  have e : ∀ y, flip y = y ^^^ 2 ^ 63 := fun _ => rfl
  rw [e, e, Nat.xor_assoc, Nat.xor_self, Nat.xor_zero]
theorem flip_high (x : Nat) (h : x < 9223372036854775808) : flip (9223372036854775808 + x) = x := by
  rw [← flip_low x h, flip_flip]
theorem flip_word (s : Bool) (r : Nat) (h : r < 9223372036854775808) : flip (double.word s r) = double.word (!s) r := by
  rw [word_double, word_double]
  cases s
  · simpa using flip_low r h
  · simpa using flip_high r h
theorem word_of (x : Nat) (h : x < 18446744073709551616) : x = double.word (x / 9223372036854775808 % 2 == 1) (x % 9223372036854775808) := by
  rw [word_double]
  by_cases hx : x < 9223372036854775808
  · have : x / 9223372036854775808 = 0 := Nat.div_eq_of_lt hx
    simp [this]; omega
  · have : x / 9223372036854775808 = 1 := by omega
    simp [this]; omega
theorem flip_lt (x : Nat) (h : x < 18446744073709551616) : flip x < 18446744073709551616 ∧ flip x % 9223372036854775808 = x % 9223372036854775808 ∧ (flip x / 9223372036854775808 % 2 == 1) = !(x / 9223372036854775808 % 2 == 1) := by
  have hm : x % 9223372036854775808 < 9223372036854775808 := Nat.mod_lt _ (by omega)
  have e : flip x = double.word (!(x / 9223372036854775808 % 2 == 1)) (x % 9223372036854775808) := by
    conv => lhs; rw [word_of x h]
    exact flip_word _ _ hm
  obtain ⟨a, b, c⟩ := word_read (!(x / 9223372036854775808 % 2 == 1)) (x % 9223372036854775808) hm
  rw [e]
  exact ⟨c, a, b⟩
theorem flip_nan (x : Nat) (h : x < 18446744073709551616) : nanB (flip x) = nanB x := by
  simp [nanB, (flip_lt x h).2.1]
theorem read_flip (x : Nat) (h : x < 18446744073709551616) : double.read (flip x) = (double.read x).opposite := by
  obtain ⟨_, a, b⟩ := flip_lt x h
  rw [read_double, read_double, a, b]
  split
  · rfl
  · split
    · rfl
    · split <;> rfl
theorem write_opposite (d : Datum) (h : d.isNaN = false) : double.write d.opposite = flip (double.write d) := by
  cases d with
  | number s m e =>
    obtain ⟨r, hr, hl, hall⟩ := nearest_word s m e
    simp only [Format.write, Datum.opposite]
    rw [hall s, hall (!s), flip_word _ _ (by omega)]
  | infinity s =>
    simp only [Format.write, Datum.opposite]
    have : double.infRung = 9218868437227405312 := rfl
    rw [this, flip_word _ _ (by omega)]
  | nan s t => simp [Datum.isNaN] at h
theorem opposite_opposite (d : Datum) : d.opposite.opposite = d := by cases d <;> simp [Datum.opposite]
theorem product_opposite (a b : Datum) : a.product b.opposite = (a.product b).map Datum.opposite := by
  cases a <;> cases b <;> simp [Datum.product, Datum.opposite] <;> split <;> simp [Datum.opposite]
theorem sum_comm (a b : Datum) : a.sum b = b.sum a := by
  cases a with
  | number s m i =>
    cases b with
    | number t n j =>
      simp only [Datum.sum]
      rw [Int.min_comm i j, Int.add_comm, Bool.and_comm]
    | infinity t => rfl
    | nan => rfl
  | infinity s =>
    cases b with
    | number => rfl
    | infinity t =>
      simp only [Datum.sum]
      by_cases h : s = t
      · subst h; rfl
      · rw [if_neg h, if_neg (fun e => h e.symm)]
    | nan => rfl
  | nan => cases b <;> rfl
theorem product_comm (a b : Datum) : a.product b = b.product a := by
  cases a <;> cases b <;> simp [Datum.product, Bool.xor_comm, Nat.mul_comm, Int.add_comm]

theorem add_comm_bits (x y : Nat) : floatBits .add .f64 x y = floatBits .add .f64 y x := by
  show ((double.read x).sum (double.read y)).map double.write = ((double.read y).sum (double.read x)).map double.write
  rw [sum_comm]
theorem mul_comm_bits (x y : Nat) : floatBits .mul .f64 x y = floatBits .mul .f64 y x := by
  show ((double.read x).product (double.read y)).map double.write = ((double.read y).product (double.read x)).map double.write
  rw [product_comm]
theorem mul_flip (x y : Nat) (hy : y < 18446744073709551616) : floatBits .mul .f64 x (flip y) = (floatBits .mul .f64 x y).map flip := by
  show ((double.read x).product (double.read (flip y))).map double.write = (((double.read x).product (double.read y)).map double.write).map flip
  rw [read_flip y hy, product_opposite]
  cases h : (double.read x).product (double.read y) with
  | none => rfl
  | some d => simp [write_opposite d (product_nan h).2.2]
theorem sub_flip (x y : Nat) (hy : y < 18446744073709551616) : floatBits .sub .f64 x (flip y) = floatBits .add .f64 x y := by
  show ((double.read x).sum (double.read (flip y)).opposite).map double.write = ((double.read x).sum (double.read y)).map double.write
  rw [read_flip y hy, opposite_opposite]
theorem add_flip (x y : Nat) (hx : x < 18446744073709551616) : floatBits .add .f64 (flip x) y = floatBits .sub .f64 y x := by
  show ((double.read (flip x)).sum (double.read y)).map double.write = ((double.read y).sum (double.read x).opposite).map double.write
  rw [read_flip x hx, sum_comm]

theorem cut_zero (s : Bool) (n : Nat) : Toward.even.cut s n 0 = n := by
  simp [Toward.cut, Nat.mod_one]
theorem nearest_pos (s : Bool) (m : Nat) (e : Int) (hm : m ≠ 0) (he : -1074 ≤ e) : ∃ r, double.nearest s m e = double.word s r ∧ 1 ≤ r ∧ r ≤ 9218868437227405312 := by
  have hl : double.leastPlace = -1074 := rfl
  have hb : double.binade = 4503599627370496 := rfl
  have hi : double.infRung = 9218868437227405312 := rfl
  unfold Format.nearest
  rw [if_neg hm, hl, hb, hi]
  dsimp only
  refine ⟨_, rfl, ?_, Nat.min_le_right _ _⟩
  rw [Nat.le_min]
  refine ⟨?_, by omega⟩
  by_cases h : e + (m.log2 : Int) - (double.fractionBits : Int) ≤ -1074
  · rw [Int.max_eq_right h]
    have e0 : (-1074 - e).toNat = 0 := by omega
    rw [e0, cut_zero]
    have : 1 ≤ m <<< (e - -1074).toNat := by
      rw [Nat.shiftLeft_eq]
      exact Nat.mul_pos (by omega) (Nat.two_pow_pos _)
    omega
  · rw [Int.max_eq_left (by omega)]
    have : 1 ≤ (e + (m.log2 : Int) - (double.fractionBits : Int) - -1074).toNat := by omega
    omega

/-- A sum is no nought with a sign where its first part is none. -/
theorem add_plain {x y r : Nat} (hx : x < 18446744073709551616) (hz : x ≠ 9223372036854775808) (h : floatBits .add .f64 x y = some r) : r ≠ 9223372036854775808 := by
  have h : ((double.read x).sum (double.read y)).map double.write = some r := h
  have wne : ∀ s q, 1 ≤ q → q ≤ 9218868437227405312 → double.word s q ≠ 9223372036854775808 := by
    intro s q h1 h2 e
    have := (word_read s q (by omega)).1
    rw [e] at this
    omega
  rcases read_cases x with ⟨m, e, hr, hx1, he, _, _, hm⟩ | ⟨hr, _⟩ | ⟨t, hr, _⟩
  · rcases read_cases y with ⟨n, f, hq, hy1, hf, _, _, hn⟩ | ⟨hq, _⟩ | ⟨t, hq, _⟩
    · rw [hr, hq] at h
      simp only [Datum.sum, Option.map_some, Option.some.injEq, Format.write] at h
      by_cases h0 : signed (x / 9223372036854775808 % 2 == 1) m (e - min e f).toNat + signed (y / 9223372036854775808 % 2 == 1) n (f - min e f).toNat = 0
      · rw [h0] at h
        simp only [if_true, Int.natAbs_zero] at h
        have hs : ((x / 9223372036854775808 % 2 == 1) && (y / 9223372036854775808 % 2 == 1)) = false := by
          cases a : (x / 9223372036854775808 % 2 == 1) with
          | false => rfl
          | true =>
            cases b : (y / 9223372036854775808 % 2 == 1) with
            | false => rfl
            | true =>
              exfalso
              rw [a, b] at h0
              have hm0 : m = 0 := by
                refine (signed_zero true m (e - min e f).toNat).1 ?_
                simp only [signed, if_true] at h0 ⊢
                generalize m <<< (e - min e f).toNat = A at h0 ⊢
                generalize n <<< (f - min e f).toNat = B at h0
                omega
              have := hm.1 hm0
              have a' : x / 9223372036854775808 % 2 = 1 := by simpa using a
              omega
        rw [hs] at h
        have : double.nearest false 0 (min e f) = 0 := rfl
        omega
      · obtain ⟨q, hq1, hq2, hq3⟩ := nearest_pos (if signed (x / 9223372036854775808 % 2 == 1) m (e - min e f).toNat + signed (y / 9223372036854775808 % 2 == 1) n (f - min e f).toNat = 0 then ((x / 9223372036854775808 % 2 == 1) && (y / 9223372036854775808 % 2 == 1)) else decide (signed (x / 9223372036854775808 % 2 == 1) m (e - min e f).toNat + signed (y / 9223372036854775808 % 2 == 1) n (f - min e f).toNat < 0)) (signed (x / 9223372036854775808 % 2 == 1) m (e - min e f).toNat + signed (y / 9223372036854775808 % 2 == 1) n (f - min e f).toNat).natAbs (min e f) (by omega) (by omega)
        rw [hq1] at h
        rw [← h]
        exact wne _ _ hq2 hq3
    · rw [hr, hq] at h
      simp only [Datum.sum, Option.map_some, Option.some.injEq, Format.write] at h
      rw [← h]
      exact wne _ _ (by decide) (by decide)
    · rw [hr, hq] at h; simp [Datum.sum] at h
  · rcases read_cases y with ⟨n, f, hq, hy1, hf, _, _, hn⟩ | ⟨hq, _⟩ | ⟨t, hq, _⟩
    · rw [hr, hq] at h
      simp only [Datum.sum, Option.map_some, Option.some.injEq, Format.write] at h
      rw [← h]
      exact wne _ _ (by decide) (by decide)
    · rw [hr, hq] at h
      simp only [Datum.sum] at h
      split at h
      · simp only [Option.map_some, Option.some.injEq, Format.write] at h
        rw [← h]
        exact wne _ _ (by decide) (by decide)
      · cases h
    · rw [hr, hq] at h; simp [Datum.sum] at h
  · rw [hr] at h; simp [Datum.sum] at h


/-- A world's choices to come. -/
structure Tok where
  tape : Nat → Question → Nat
  drawn : Nat
def tok (w : World) : Tok := ⟨w.tape, w.drawn⟩
def Tok.adv (k : Tok) (n : Nat) : Tok := ⟨k.tape, k.drawn + n⟩
@[go_sem] theorem tok_alloc (w : World) (o : Obj) : tok (w.alloc o) = tok w := rfl
@[go_sem] theorem tok_setCell (w : World) (a : Addr) (v : Value) : tok (w.setCell a v) = tok w := rfl
@[go_sem] theorem tok_drewN (w : World) (n : Nat) : tok (w.drewN n) = (tok w).adv n := rfl
/-- What an operation on two floats answers in a world: the bits that IEEE 754 fixes; where it has no answer, some NaN that the world's choices name. -/
def fop (op : BinOp) (k : Tok) (x y : Nat) : Nat :=
  match floatBits op .f64 x y with
  | some r => r
  | none => Question.cut (.nanBits .f64 x y) (k.tape k.drawn (.nanBits .f64 x y))
/-- How many choices it draws. -/
def nd (op : BinOp) (x y : Nat) : Nat := if (floatBits op .f64 x y).isSome then 0 else 1
/-- The world behind it. -/
abbrev fw (op : BinOp) (w : World) (x y : Nat) : World := w.drewN (nd op x y)
@[go_sem] theorem alloc_drewN (w : World) (n : Nat) (o : Obj) : (w.drewN n).alloc o = (w.alloc o).drewN n := rfl
@[go_sem] theorem setCell_drewN (w : World) (n : Nat) (a : Addr) (v : Value) : (w.drewN n).setCell a v = (w.setCell a v).drewN n := rfl
@[go_sem] theorem shape_drewN (w : World) (n r : Nat) : (w.drewN n).shape? r = w.shape? r := rfl

section
variable {P : Program} (w : World)
theorem run_fop (op : BinOp) (hop : op = .add ∨ op = .sub ∨ op = .mul ∨ op = .quo) (t : TypeId) (x y : Nat) : (binOp op t (.float .f64 x) (.float .f64 y)).run P w = .ok (.float .f64 (fop op (tok w) x y)) (fw op w x y) := by
  cases h : floatBits op .f64 x y with
  | some r =>
    rw [run_float_arith w op t .f64 x y r h]
    simp [fop, fw, nd, h, World.drewN_zero]
  | none =>
    have hf : fop op (tok w) x y = Question.cut (.nanBits .f64 x y) (w.tape w.drawn (.nanBits .f64 x y)) := by simp [fop, tok, h]
    have hw : fw op w x y = w.drew := by simp [fw, nd, h, World.drew_is_drewN]
    rw [hf, hw]
    unfold floatBits at h
    rcases hop with rfl | rfl | rfl | rfl <;> simp only at h <;> simp [binOp, Op.floatArith, h, Question.forced]
@[go_sem] theorem run_fadd (t : TypeId) (x y : Nat) : (binOp .add t (.float .f64 x) (.float .f64 y)).run P w = .ok (.float .f64 (fop .add (tok w) x y)) (w.drewN (nd .add x y)) := run_fop w _ (.inl rfl) t x y
@[go_sem] theorem run_fsub (t : TypeId) (x y : Nat) : (binOp .sub t (.float .f64 x) (.float .f64 y)).run P w = .ok (.float .f64 (fop .sub (tok w) x y)) (w.drewN (nd .sub x y)) := run_fop w _ (.inr (.inl rfl)) t x y
@[go_sem] theorem run_fmul (t : TypeId) (x y : Nat) : (binOp .mul t (.float .f64 x) (.float .f64 y)).run P w = .ok (.float .f64 (fop .mul (tok w) x y)) (w.drewN (nd .mul x y)) := run_fop w _ (.inr (.inr (.inl rfl))) t x y
@[go_sem] theorem run_fquo (t : TypeId) (x y : Nat) : (binOp .quo t (.float .f64 x) (.float .f64 y)).run P w = .ok (.float .f64 (fop .quo (tok w) x y)) (w.drewN (nd .quo x y)) := run_fop w _ (.inr (.inr (.inr rfl))) t x y
end

section
variable (P : Program) (w : World) (a : Addr) (m : Mode)
@[go_sem] theorem run_store_float (k : FloatKind) (b : Nat) : (store a (.float k b) m).run P w = stored P w a (.float k b) m := run_store P w a _ m rfl
@[go_sem] theorem run_store_complex (k : FloatKind) (b c : Nat) : (store a (.complex k b c) m).run P w = stored P w a (.complex k b c) m := run_store P w a _ m rfl
@[go_sem] theorem run_neg_float (b : Nat) : (Op.unary .neg (.float .f64 b)).run P w = .ok (.float .f64 (flip b)) w := rfl
end

theorem cut_nan (x y t : Nat) : nanB (Question.cut (.nanBits .f64 x y) t) = true ∧ Question.cut (.nanBits .f64 x y) t < 18446744073709551616 := by
  have e : Question.cut (.nanBits .f64 x y) t = (t % 2) * 2 ^ 63 + 0x7ff0000000000000 + 1 + (t / 2) % (2 ^ 52 - 1) := rfl
  have h : (t / 2) % (2 ^ 52 - 1) < 2 ^ 52 - 1 := Nat.mod_lt _ (by decide)
  have h2 : t % 2 < 2 := Nat.mod_lt _ (by decide)
  rw [e]
  generalize (t / 2) % (2 ^ 52 - 1) = b at h
  generalize t % 2 = a at h2
  simp only [nanB, decide_eq_true_eq]
  rcases (by omega : a = 0 ∨ a = 1) with rfl | rfl <;> constructor <;> omega

theorem nrm_fop (op : BinOp) (w : Tok) (x y : Nat) : nrm (fop op w x y) = opN op (nrm x) (nrm y) := by
  cases h : floatBits op .f64 x y with
  | some r =>
    obtain ⟨h1, h2, h3, _⟩ := floatBits_nan h
    simp [fop, h, nrm, opN, h1, h2, h3]
  | none =>
    have h1 := (cut_nan x y (w.tape w.drawn (.nanBits .f64 x y))).1
    have e : fop op w x y = Question.cut (.nanBits .f64 x y) (w.tape w.drawn (.nanBits .f64 x y)) := by simp [fop, h]
    rw [e]
    have e2 : nrm (Question.cut (.nanBits .f64 x y) (w.tape w.drawn (.nanBits .f64 x y))) = none := by simp only [nrm, h1, if_true]
    rw [e2]
    unfold nrm opN
    cases nanB x <;> cases nanB y <;> simp [h]
theorem fop_lt (op : BinOp) (w : Tok) (x y : Nat) : fop op w x y < 18446744073709551616 := by
  cases h : floatBits op .f64 x y with
  | some r => simpa [fop, h] using (floatBits_nan h).2.2.2
  | none => simpa [fop, h] using (cut_nan x y (w.tape w.drawn (.nanBits .f64 x y))).2
theorem opN_lt {op : BinOp} {a b : Option Nat} {r : Nat} (h : opN op a b = some r) : r < 18446744073709551616 ∧ nanB r = false := by
  unfold opN at h
  cases a with
  | none => simp at h
  | some x =>
    cases b with
    | none => simp at h
    | some y => simp at h; exact ⟨(floatBits_nan h).2.2.2, (floatBits_nan h).2.2.1⟩
theorem opN_add_comm (a b : Option Nat) : opN .add a b = opN .add b a := by
  cases a <;> cases b <;> simp [opN, add_comm_bits]
theorem opN_mul_comm (a b : Option Nat) : opN .mul a b = opN .mul b a := by
  cases a <;> cases b <;> simp [opN, mul_comm_bits]
theorem opN_mul_flip (a : Option Nat) (y : Nat) (hy : y < 18446744073709551616) : opN .mul a (nrm (flip y)) = (opN .mul a (nrm y)).map flip := by
  unfold nrm
  rw [flip_nan y hy]
  cases a <;> cases nanB y <;> simp [opN, mul_flip _ y hy]
theorem opN_sub_flip (a : Option Nat) (b : Option Nat) (hb : ∀ y, b = some y → y < 18446744073709551616) : opN .sub a (b.map flip) = opN .add a b := by
  cases a with
  | none => rfl
  | some x =>
    cases b with
    | none => rfl
    | some y => simp [opN, sub_flip x y (hb y rfl)]
theorem opN_add_flip (a : Option Nat) (b : Option Nat) (ha : ∀ y, a = some y → y < 18446744073709551616) : opN .add (a.map flip) b = opN .sub b a := by
  cases a with
  | none => cases b <;> rfl
  | some x =>
    cases b with
    | none => rfl
    | some y => simp [opN, add_flip x y (ha x rfl)]

theorem fin_nan {x : Nat} (h : fin x = true) : nanB x = false := by
  simp [fin, nanB] at *; omega
theorem nrm_fin {x : Nat} (h : fin x = true) : nrm x = some x := by simp [nrm, fin_nan h]
theorem nrm_some {x r : Nat} (h : nrm x = some r) : x = r := by
  unfold nrm at h; split at h <;> simp_all
theorem fin_of_nrm {x y : Nat} (h : nrm x = nrm y) : fin x = fin y := by
  unfold nrm at h
  cases hx : nanB x <;> cases hy : nanB y <;> simp [hx, hy] at h
  · rw [h]
  · have : ∀ z, nanB z = true → fin z = false := by intro z hz; simp [fin, nanB] at *; omega
    rw [this x hx, this y hy]
theorem good_fin {x : Nat} (h : good x = true) : fin x = true := by simp [good] at h; exact h.1
theorem good_ne {x : Nat} (h : good x = true) : x ≠ 9223372036854775808 := by simp [good] at h; exact h.2

end Go.Proofs.Ytghmnhohdbombaa
