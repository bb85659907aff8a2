/-
  Cells, their numbers and the cells next to them, free of the program.
-/
import Derived.Test.YtnfkgnbhdhpnmaaGood13
namespace Go.Proofs.Ytnfkgnbhdhpnmaa
open Go.ChangeShapes Go.WideShapes Go.ChangeAt Go.RowKit

set_option linter.unusedVariables false
/-- The edges of good blocks. -/
def Edge (a b d : Int) : Prop := (1 ≤ a ∧ a ≤ 8) ∧ (1 ≤ b ∧ b ≤ 8) ∧ (1 ≤ d ∧ d ≤ 8)
theorem BlocksP.edge {a b d : Int} {l : List Int} (h : BlocksP a b d l) : Edge a b d := ⟨h.1, h.2.1, h.2.2.1⟩
theorem BlocksP.len {a b d : Int} {l : List Int} (h : BlocksP a b d l) : (l.length : Int) = a * b * d := h.2.2.2.1
theorem Edge.vol {a b d : Int} (h : Edge a b d) : (1 ≤ a * b ∧ a * b ≤ 64) ∧ (1 ≤ a * b * d ∧ a * b * d ≤ 512) := vol_in h.1 h.2.1 h.2.2
/-- A place that is there. -/
def Here (a b d x y z : Int) : Prop := (0 ≤ x ∧ x ≤ a - 1) ∧ (0 ≤ y ∧ y ≤ b - 1) ∧ (0 ≤ z ∧ z ≤ d - 1)
instance (a b d x y z : Int) : Decidable (Here a b d x y z) := by unfold Here; infer_instance
/-- The number of a place. -/
def num (a b x y z : Int) : Int := (z * b + y) * a + x
/-- The number of a place, -1 where there is none. -/
def atM (a b d x y z : Int) : Int := if Here a b d x y z then num a b x y z else -1
theorem lin_in {x a y b : Int} (h1 : 0 ≤ x) (h2 : x ≤ a - 1) (h3 : 0 ≤ y) (h4 : y ≤ b - 1) : (0 ≤ y * a ∧ y * a ≤ b * a - a) ∧ 0 ≤ y * a + x ∧ y * a + x ≤ b * a - 1 := by
  have e1 : 0 ≤ y * a := Int.mul_nonneg h3 (by omega)
  have e2 : y * a ≤ (b - 1) * a := Int.mul_le_mul_of_nonneg_right h4 (by omega)
  rw [Int.sub_mul] at e2
  omega
theorem num_in {a b d x y z : Int} (h : Here a b d x y z) : 0 ≤ num a b x y z ∧ num a b x y z ≤ a * b * d - 1 := by
  obtain ⟨⟨x1, x2⟩, ⟨y1, y2⟩, z1, z2⟩ := h
  have e1 := (lin_in y1 y2 z1 z2).2
  have e2 := (lin_in x1 x2 e1.1 e1.2).2
  unfold num
  have e3 : d * b * a = a * b * d := by rw [Int.mul_comm d b, Int.mul_assoc, Int.mul_comm d a, ← Int.mul_assoc, Int.mul_comm b a]
  omega
/-- The steps of the sum, as the program takes them. -/
theorem num_steps {a b d x y z : Int} (he : Edge a b d) (h : Here a b d x y z) : (0 ≤ z * b ∧ z * b ≤ 64) ∧ (0 ≤ z * b + y ∧ z * b + y ≤ 64) ∧ (0 ≤ (z * b + y) * a ∧ (z * b + y) * a ≤ 512) ∧ (0 ≤ (z * b + y) * a + x ∧ (z * b + y) * a + x ≤ 512) := by
  have hn := num_in h
  unfold num at hn
  have hv := he.vol
  obtain ⟨⟨x1, x2⟩, ⟨y1, y2⟩, z1, z2⟩ := h
  have e1 := lin_in y1 y2 z1 z2
  have e2 := lin_in x1 x2 e1.2.1 e1.2.2
  have e4 : d * b ≤ 8 * 8 := Int.mul_le_mul he.2.2.2 he.2.1.2 (by have := he.2.1; omega) (by omega)
  omega
theorem num_x {a b d x y z : Int} (h : Here a b d x y z) : num a b x y z % a = x := by
  unfold num
  rw [Int.add_comm, Int.add_mul_emod_self_right]
  exact Int.emod_eq_of_lt h.1.1 (by have := h.1; omega)
theorem num_t {a b d x y z : Int} (h : Here a b d x y z) : num a b x y z / a = z * b + y := by
  unfold num
  have ha : a ≠ 0 := by have := h.1; omega
  rw [Int.add_comm, Int.add_mul_ediv_right _ _ ha, Int.ediv_eq_zero_of_lt h.1.1 (by have := h.1; omega), Int.zero_add]
theorem num_y {a b d x y z : Int} (h : Here a b d x y z) : num a b x y z / a % b = y := by
  rw [num_t h, Int.add_comm, Int.add_mul_emod_self_right]
  exact Int.emod_eq_of_lt h.2.1.1 (by have := h.2.1; omega)
theorem num_z {a b d x y z : Int} (h : Here a b d x y z) : num a b x y z / a / b = z := by
  have hb : b ≠ 0 := by have := h.2.1; omega
  rw [num_t h, Int.add_comm, Int.add_mul_ediv_right _ _ hb, Int.ediv_eq_zero_of_lt h.2.1.1 (by have := h.2.1; omega), Int.zero_add]
/-- Each number of a cell is that of a place. -/
theorem num_of {a b d n : Int} (he : Edge a b d) (h0 : 0 ≤ n) (h1 : n ≤ a * b * d - 1) : ∃ x y z, Here a b d x y z ∧ n = num a b x y z := by
  obtain ⟨⟨a1, a2⟩, ⟨b1, b2⟩, d1, d2⟩ := he
  refine ⟨n % a, n / a % b, n / a / b, ⟨⟨Int.emod_nonneg _ (by omega), by have := Int.emod_lt_of_pos n (show 0 < a by omega); omega⟩, ⟨Int.emod_nonneg _ (by omega), by have := Int.emod_lt_of_pos (n / a) (show 0 < b by omega); omega⟩, Int.ediv_nonneg (Int.ediv_nonneg h0 (by omega)) (by omega), ?_⟩, ?_⟩
  · have e1 : n / a < b * d := Int.ediv_lt_of_lt_mul (by omega) (by rw [Int.mul_comm, ← Int.mul_assoc]; omega)
    have e2 : n / a / b < d := Int.ediv_lt_of_lt_mul (by omega) (by rw [Int.mul_comm]; omega)
    omega
  · unfold num
    have e1 := Int.mul_ediv_add_emod n a
    have e2 := Int.mul_ediv_add_emod (n / a) b
    rw [Int.mul_comm] at e1 e2
    rw [e2, e1]
/-- How far apart two cells next to one another along a way are. -/
def apart (a b : Int) (w : Nat) : Int := if w < 2 then 1 else if w < 4 then a else a * b
def many (a b d : Int) (w : Nat) : Int := if w < 2 then a else if w < 4 then b else d
def pl (a b d n : Int) (w : Nat) : Int := n / apart a b w % many a b d w
/-- The cell next to one along a way, and whether it is there. -/
def bes (a b d n : Int) (w : Nat) : Int := if w % 2 = 0 then n - apart a b w else n + apart a b w
def there (a b d n : Int) (w : Nat) : Bool := if w % 2 = 0 then decide (0 < pl a b d n w) else decide (pl a b d n w < many a b d w - 1)
/-- The cell next to one along a way, -1 where there is none. -/
def nx (a b d n : Int) (w : Nat) : Int := if there a b d n w = true then bes a b d n w else -1
/-- The place next to one along a way. -/
def stepX (w : Nat) : Int := if w = 0 then -1 else if w = 1 then 1 else 0
def stepY (w : Nat) : Int := if w = 2 then -1 else if w = 3 then 1 else 0
def stepZ (w : Nat) : Int := if w = 4 then -1 else if w = 5 then 1 else 0
theorem nx_at {a b d x y z : Int} (he : Edge a b d) (h : Here a b d x y z) {w : Nat} (hw : w < 6) : nx a b d (num a b x y z) w = atM a b d (x + stepX w) (y + stepY w) (z + stepZ w) := by
  have px := num_x h
  have py := num_y h
  have pz := num_z h
  have pz2 : num a b x y z / (a * b) % d = z := by
    rw [← Int.ediv_ediv_of_nonneg (by have := he.1; omega), pz]
    exact Int.emod_eq_of_lt h.2.2.1 (by have := h.2.2; omega)
  obtain ⟨⟨x1, x2⟩, ⟨y1, y2⟩, z1, z2⟩ := h
  have hx1 : num a b (x + -1) y z = num a b x y z - 1 := by unfold num; omega
  have hx2 : num a b (x + 1) y z = num a b x y z + 1 := by unfold num; omega
  have hy1 : num a b x (y + -1) z = num a b x y z - a := by unfold num; rw [← Int.add_assoc, Int.add_mul]; omega
  have hy2 : num a b x (y + 1) z = num a b x y z + a := by unfold num; rw [← Int.add_assoc, Int.add_mul]; omega
  have hz1 : num a b x y (z + -1) = num a b x y z - a * b := by
    unfold num
    rw [show (z + -1) * b + y = (z * b + y) + (- b) by rw [Int.add_mul]; omega, Int.add_mul, Int.neg_mul, Int.mul_comm b a]; omega
  have hz2 : num a b x y (z + 1) = num a b x y z + a * b := by
    unfold num
    rw [show (z + 1) * b + y = (z * b + y) + b by rw [Int.add_mul]; omega, Int.add_mul, Int.mul_comm b a]; omega
  obtain rfl | rfl | rfl | rfl | rfl | rfl : w = 0 ∨ w = 1 ∨ w = 2 ∨ w = 3 ∨ w = 4 ∨ w = 5 := by omega
  · simp [nx, there, bes, pl, apart, many, atM, stepX, stepY, stepZ, px, Here, hx1]
    by_cases q : 0 < x
    · rw [if_pos q, if_pos (by omega)]
    · rw [if_neg q, if_neg (by omega)]
  · simp [nx, there, bes, pl, apart, many, atM, stepX, stepY, stepZ, px, Here, hx2]
    by_cases q : x < a - 1
    · rw [if_pos q, if_pos (by omega)]
    · rw [if_neg q, if_neg (by omega)]
  · simp [nx, there, bes, pl, apart, many, atM, stepX, stepY, stepZ, py, Here, hy1]
    by_cases q : 0 < y
    · rw [if_pos q, if_pos (by omega)]
    · rw [if_neg q, if_neg (by omega)]
  · simp [nx, there, bes, pl, apart, many, atM, stepX, stepY, stepZ, py, Here, hy2]
    by_cases q : y < b - 1
    · rw [if_pos q, if_pos (by omega)]
    · rw [if_neg q, if_neg (by omega)]
  · simp [nx, there, bes, pl, apart, many, atM, stepX, stepY, stepZ, pz2, Here, hz1]
    by_cases q : 0 < z
    · rw [if_pos q, if_pos (by omega)]
    · rw [if_neg q, if_neg (by omega)]
  · simp [nx, there, bes, pl, apart, many, atM, stepX, stepY, stepZ, pz2, Here, hz2]
    by_cases q : z < d - 1
    · rw [if_pos q, if_pos (by omega)]
    · rw [if_neg q, if_neg (by omega)]
theorem nx_in {a b d n : Int} (he : Edge a b d) (h0 : 0 ≤ n) (h1 : n ≤ a * b * d - 1) {w : Nat} (hw : w < 6) : nx a b d n w = -1 ∨ (0 ≤ nx a b d n w ∧ nx a b d n w ≤ a * b * d - 1) := by
  obtain ⟨x, y, z, h, rfl⟩ := num_of he h0 h1
  rw [nx_at he h hw]
  unfold atM
  by_cases q : Here a b d (x + stepX w) (y + stepY w) (z + stepZ w)
  · rw [if_pos q]; exact .inr (num_in q)
  · rw [if_neg q]; exact .inl rfl
theorem bes_in {a b d n : Int} (he : Edge a b d) (h0 : 0 ≤ n) (h1 : n ≤ a * b * d - 1) {w : Nat} (hw : w < 6) (ht : there a b d n w = true) : 0 ≤ bes a b d n w ∧ bes a b d n w ≤ a * b * d - 1 := by
  have e : nx a b d n w = bes a b d n w := by unfold nx; rw [if_pos ht]
  have hn : 0 ≤ bes a b d n w ∨ bes a b d n w = -1 := by
    rcases nx_in he h0 h1 hw with h | h
    · exact .inr (e ▸ h)
    · exact .inl (e ▸ h.1)
  rcases nx_in he h0 h1 hw with h | h
  · exfalso
    obtain ⟨x, y, z, hh, rfl⟩ := num_of he h0 h1
    rw [nx_at he hh hw] at h e
    unfold atM at h e
    by_cases q : Here a b d (x + stepX w) (y + stepY w) (z + stepZ w)
    · rw [if_pos q] at h; have := num_in q; omega
    · obtain ⟨⟨x1, x2⟩, ⟨y1, y2⟩, z1, z2⟩ := hh
      have pz2 : num a b x y z / (a * b) % d = z := by
        rw [← Int.ediv_ediv_of_nonneg (by have := he.1; omega), num_z ⟨⟨x1, x2⟩, ⟨y1, y2⟩, z1, z2⟩]
        exact Int.emod_eq_of_lt z1 (by omega)
      apply q
      obtain rfl | rfl | rfl | rfl | rfl | rfl : w = 0 ∨ w = 1 ∨ w = 2 ∨ w = 3 ∨ w = 4 ∨ w = 5 := by omega
      all_goals
        simp [there, pl, apart, many, num_x ⟨⟨x1, x2⟩, ⟨y1, y2⟩, z1, z2⟩, num_y ⟨⟨x1, x2⟩, ⟨y1, y2⟩, z1, z2⟩, pz2] at ht
        simp [Here, stepX, stepY, stepZ]
        omega
  · exact e ▸ h

end Go.Proofs.Ytnfkgnbhdhpnmaa
