/-
  The sweep: free of the program.
-/
import Derived.Test.YtfibikkbhbmfkaaFromL9
namespace Go.Proofs.Ytfibikkbhbmfkaa
open Go.ChangeShapes Go.WideShapes Go.ChangeAt Go.RowKit

set_option maxRecDepth 100000
set_option linter.unusedVariables false
set_option linter.unusedSimpArgs false

theorem sq_le {z m : Int} (hm : 0 ≤ m) (h : z * z ≤ m * m) : z ≤ m := by
  rcases Int.lt_or_le m z with k | k
  · exfalso
    have h1 : m * m ≤ m * z := Int.mul_le_mul_of_nonneg_left (Int.le_of_lt k) hm
    have h2 : m * z < z * z := Int.mul_lt_mul_of_pos_right k (by omega)
    omega
  · exact k
theorem touch_symm {p q : ShapeD} (hp : ShapeP p) (hq : ShapeP q) : TouchP p q ↔ TouchP q p := by
  obtain ⟨k, x, y, a, b⟩ := p
  obtain ⟨m, u, v, c, e⟩ := q
  have h1 := kind_of hp
  have h2 := kind_of hq
  rw [← decide_eq_true_iff (p := TouchP (k, x, y, a, b) (m, u, v, c, e)), ← decide_eq_true_iff (p := TouchP (m, u, v, c, e) (k, x, y, a, b))]
  rcases h1 with ⟨rfl, _⟩ | ⟨rfl, rfl⟩ <;> rcases h2 with ⟨rfl, _⟩ | ⟨rfl, rfl⟩
  · rw [touch_bb, touch_bb, decide_eq_true_iff, decide_eq_true_iff]
    omega
  · rw [touch_bd, touch_db]
  · rw [touch_bd, touch_db]
  · rw [touch_dd, touch_dd, decide_eq_true_iff, decide_eq_true_iff, show (u - x) * (u - x) = (x - u) * (x - u) by rw [show u - x = -(x - u) by omega, Int.neg_mul_neg], show (v - y) * (v - y) = (y - v) * (y - v) by rw [show v - y = -(y - v) by omega, Int.neg_mul_neg], Int.add_comm a c]
theorem gap_le {x lo hi a : Int} (h : gap x lo hi ≤ a) (h0 : 0 ≤ a) (hl : lo ≤ hi) : x - a ≤ hi ∧ lo ≤ x + a := by
  unfold gap at h
  repeat' split at h <;> omega
theorem sq_nonneg (z : Int) : 0 ≤ z * z := (sq_bd (z := z) (m := z.natAbs) (by omega) (by omega)).1
theorem touch_over {p q : ShapeD} (hp : ShapeP p) (hq : ShapeP q) (h : TouchP p q) : (bnd p).1 ≤ (bnd q).2.2.1 ∧ (bnd q).1 ≤ (bnd p).2.2.1 := by
  have hb1 := bnd_bd hp
  have hb2 := bnd_bd hq
  obtain ⟨k, x, y, a, b⟩ := p
  obtain ⟨m, u, v, c, e⟩ := q
  have h1 := kind_of hp
  have h2 := kind_of hq
  obtain ⟨_, _, ⟨ha, _⟩, _⟩ := hp
  obtain ⟨_, _, ⟨hc, _⟩, _⟩ := hq
  dsimp only at ha hc
  have h' : decide (TouchP (k, x, y, a, b) (m, u, v, c, e)) = true := decide_eq_true h
  rcases h1 with ⟨rfl, h1⟩ | ⟨rfl, rfl⟩ <;> rcases h2 with ⟨rfl, h2⟩ | ⟨rfl, rfl⟩
  · rw [touch_bb, decide_eq_true_iff] at h'
    simp [bnd]
    omega
  · rw [touch_bd, decide_eq_true_iff] at h'
    have g2 := sq_nonneg (gap v y (y + b))
    have g3 := gap_le (sq_le (by omega) (show gap u x (x + a) * gap u x (x + a) ≤ c * c by omega)) (by omega) (by omega)
    simp [bnd]
    omega
  · rw [touch_db, decide_eq_true_iff] at h'
    have g2 := sq_nonneg (gap y v (v + e))
    have g3 := gap_le (sq_le (by omega) (show gap x u (u + c) * gap x u (u + c) ≤ a * a by omega)) (by omega) (by omega)
    simp [bnd]
    omega
  · rw [touch_dd, decide_eq_true_iff] at h'
    have g2 := sq_nonneg (y - v)
    have g3 := sq_le (z := x - u) (m := c + a) (by omega) (by omega)
    have g4 := sq_le (z := u - x) (m := c + a) (by omega) (by rw [show u - x = -(x - u) by omega, Int.neg_mul_neg]; omega)
    simp [bnd]
    omega
/-- What two numbers give in the sweep: their pair where they touch, the less one first. -/
def tg (ps : List ShapeD) (a b : Nat) : List PairD := tf ps (min a b) (max a b)
def og (ps : List ShapeD) (a b : Nat) : List Unit := if lefts ps a ≤ rights ps b ∧ lefts ps b ≤ rights ps a then [()] else []
theorem tg_symm (ps : List ShapeD) (a b : Nat) : tg ps a b = tg ps b a := by unfold tg; rw [Nat.min_comm, Nat.max_comm]
theorem og_symm (ps : List ShapeD) (a b : Nat) : og ps a b = og ps b a := by
  unfold og
  by_cases h : lefts ps a ≤ rights ps b ∧ lefts ps b ≤ rights ps a
  · rw [if_pos h, if_pos h.symm]
  · rw [if_neg h, if_neg (fun k => h k.symm)]
theorem getD_get {ps : List ShapeD} {i : Nat} {p : ShapeD} (h : ps[i]? = some p) : ps.getD i shape0 = p := by simp [List.getD, h]
theorem lefts_of {ps : List ShapeD} {i : Nat} {p : ShapeD} (h : ps[i]? = some p) : lefts ps i = (bnd p).1 := by unfold lefts; rw [getD_get h]
theorem rights_of {ps : List ShapeD} {i : Nat} {p : ShapeD} (h : ps[i]? = some p) : rights ps i = (bnd p).2.2.1 := by unfold rights; rw [getD_get h]
theorem tg_touch {ps : List ShapeD} {a b : Nat} {p q : ShapeD} (hg : shapesB ps = true) (h1 : ps[a]? = some p) (h2 : ps[b]? = some q) : tg ps a b = if TouchP p q then [(((min a b : Nat) : Int), ((max a b : Nat) : Int))] else [] := by
  unfold tg tf
  rcases Nat.le_total a b with h | h
  · rw [Nat.min_eq_left h, Nat.max_eq_right h, h1, h2]
  · rw [Nat.min_eq_right h, Nat.max_eq_left h, h1, h2]
    have := touch_symm (shapes_good hg h1) (shapes_good hg h2)
    dsimp only
    by_cases k : TouchP p q
    · rw [if_pos k, if_pos (this.1 k)]
    · rw [if_neg k, if_neg (fun x => k (this.2 x))]
/-- What is open behind the first j. -/
def opn (ps : List ShapeD) (ord : List Nat) : Nat → List Nat
  | 0 => []
  | j + 1 => (opn ps ord j).filter (fun x => !decide (rights ps x < lefts ps (ord.getD j 0))) ++ [ord.getD j 0]
theorem opn_filter (ps : List ShapeD) (ord : List Nat) : ∀ (j : Nat) (t : Int), j ≤ ord.length → (∀ i, i < j → lefts ps (ord.getD i 0) ≤ t) → (opn ps ord j).filter (fun x => !decide (rights ps x < t)) = (ord.take j).filter (fun x => !decide (rights ps x < t))
  | 0, t, _, _ => by simp [opn]
  | j + 1, t, hj, h => by
    have hget : ord[j]? = some (ord.getD j 0) := by rw [List.getD_eq_getElem?_getD, List.getElem?_eq_getElem (by omega)]; rfl
    rw [take_snoc hget, opn, List.filter_append, List.filter_append, List.filter_filter, ← opn_filter ps ord j t (by omega) (fun i hi => h i (by omega))]
    congr 1
    refine List.filter_congr fun x _ => ?_
    have := h j (by omega)
    generalize lefts ps (ord.getD j 0) = z at this ⊢
    rw [Bool.eq_iff_iff]
    simp
    omega
theorem opn_mem {ps : List ShapeD} {ord : List Nat} : ∀ {j : Nat}, j ≤ ord.length → ∀ x ∈ opn ps ord j, x ∈ ord
  | 0, _, x, hx => by simp [opn] at hx
  | j + 1, hj, x, hx => by
    rw [opn] at hx
    rcases List.mem_append.1 hx with h | h
    · exact opn_mem (by omega) x (List.mem_filter.1 h).1
    · rw [List.mem_singleton.1 h, List.getD_eq_getElem?_getD, List.getElem?_eq_getElem (by omega)]
      exact List.getElem_mem _
theorem opn_len (ps : List ShapeD) (ord : List Nat) : ∀ j, (opn ps ord j).length ≤ j
  | 0 => by simp [opn]
  | j + 1 => by
    have h1 := opn_len ps ord j
    have h2 := List.length_filter_le (fun x => !decide (rights ps x < lefts ps (ord.getD j 0))) (opn ps ord j)
    rw [opn, List.length_append, List.length_singleton]
    omega
/-- What is asked of an order of the numbers. -/
structure Ord (ps : List ShapeD) (ord : List Nat) : Prop where
  good : shapesB ps = true
  perm : ord.Perm (List.range ps.length)
  left : ord.Pairwise (fun a b => leftLt ps b a = false)
theorem Ord.len {ps : List ShapeD} {ord : List Nat} (h : Ord ps ord) : ord.length = ps.length := by have := h.perm.length_eq; simpa using this
theorem Ord.lt {ps : List ShapeD} {ord : List Nat} (h : Ord ps ord) {x : Nat} (hx : x ∈ ord) : x < ps.length := List.mem_range.1 (h.perm.mem_iff.1 hx)
theorem Ord.mono {ps : List ShapeD} {ord : List Nat} (h : Ord ps ord) {i j x y : Nat} (hij : i < j) (hx : ord[i]? = some x) (hy : ord[j]? = some y) : lefts ps x ≤ lefts ps y := by
  obtain ⟨hi, rfl⟩ := List.getElem?_eq_some_iff.1 hx
  obtain ⟨hj, rfl⟩ := List.getElem?_eq_some_iff.1 hy
  have := (List.pairwise_iff_getElem.1 h.left) i j hi hj hij
  simp [leftLt] at this
  omega
theorem Ord.open {ps : List ShapeD} {ord : List Nat} (h : Ord ps ord) {j y : Nat} (hy : ord[j]? = some y) : (opn ps ord j).filter (fun x => !decide (rights ps x < lefts ps y)) = (ord.take j).filter (fun x => !decide (rights ps x < lefts ps y)) := by
  have hj := (List.getElem?_eq_some_iff.1 hy).1
  refine opn_filter ps ord j _ (by omega) fun i hi => ?_
  have hx : ord[i]? = some (ord.getD i 0) := by rw [List.getD_eq_getElem?_getD, List.getElem?_eq_getElem (by omega)]; rfl
  exact h.mono hi hx hy
theorem flat_filter {α β : Type} (g : α → List β) (c : α → Bool) : ∀ l : List α, (∀ a ∈ l, c a = false → g a = []) → (l.filter c).flatMap g = l.flatMap g
  | [], _ => rfl
  | a :: l, h => by
    have ih := flat_filter g c l fun x hx => h x (.tail _ hx)
    rw [List.flatMap_cons, List.filter_cons]
    cases hc : c a
    · rw [h a (.head _) hc, List.nil_append]
      simpa using ih
    · simp [ih]
theorem flat_count {α : Type} (g : α → List Unit) (c : α → Bool) : ∀ l : List α, (∀ a ∈ l, (g a).length = if c a = true then 1 else 0) → (l.flatMap g).length = (l.filter c).length
  | [], _ => rfl
  | a :: l, h => by
    have ih := flat_count g c l fun x hx => h x (.tail _ hx)
    have ha := h a (.head _)
    rw [List.flatMap_cons, List.length_append, List.filter_cons, ha, ih]
    cases hc : c a
    · simp
    · simp; omega
theorem get_some {ps : List ShapeD} {x : Nat} (h : x < ps.length) : ∃ p, ps[x]? = some p := ⟨_, List.getElem?_eq_getElem h⟩
theorem Ord.left_right {ps : List ShapeD} (hg : shapesB ps = true) {x : Nat} (h : x < ps.length) : lefts ps x ≤ rights ps x := by
  obtain ⟨p, hp⟩ := get_some h
  rw [lefts_of hp, rights_of hp]
  have := bnd_bd (shapes_good hg hp)
  omega
/-- One step of the sweep: the pairs found. -/
theorem Ord.pairs {ps : List ShapeD} {ord : List Nat} (h : Ord ps ord) {j y : Nat} (hy : ord[j]? = some y) :
    prsR (tg ps) ord (j + 1) = prsR (tg ps) ord j ++ ((opn ps ord j).filter (fun x => !decide (rights ps x < lefts ps y))).flatMap (fun a => tg ps a y) := by
  rw [h.open hy, flat_filter (fun a => tg ps a y)]
  · simp only [prsR, hy]
  · intro a ha hc
    have hm := h.lt (List.mem_of_mem_take ha)
    have hm2 := h.lt (List.mem_of_getElem? hy)
    obtain ⟨p, hp⟩ := get_some hm
    obtain ⟨q, hq⟩ := get_some hm2
    rw [tg_touch h.good hp hq, if_neg]
    intro ht
    have := touch_over (shapes_good h.good hp) (shapes_good h.good hq) ht
    rw [lefts_of hq, rights_of hp] at hc
    simp at hc
    omega
theorem Ord.looked {ps : List ShapeD} {ord : List Nat} (h : Ord ps ord) {j y : Nat} (hy : ord[j]? = some y) :
    (prsR (og ps) ord (j + 1)).length = (prsR (og ps) ord j).length + ((opn ps ord j).filter (fun x => !decide (rights ps x < lefts ps y))).length := by
  rw [h.open hy]
  simp only [prsR, hy, List.length_append]
  congr 1
  refine flat_count _ _ _ fun a ha => ?_
  have hm := h.lt (List.mem_of_mem_take ha)
  have hm2 := h.lt (List.mem_of_getElem? hy)
  obtain ⟨i, hi⟩ := List.mem_iff_getElem?.1 ha
  rw [List.getElem?_take] at hi
  split at hi
  · rename_i hij
    have h1 := h.mono hij hi hy
    have h2 := Ord.left_right h.good hm
    have h3 := Ord.left_right h.good hm2
    unfold og
    by_cases c : rights ps a < lefts ps y
    · rw [if_neg (by omega), if_neg (by simp [c])]
      rfl
    · rw [if_pos (by omega), if_pos (by simp [c])]
      rfl
  · cases hi
def rowG {β : Type} (g : Nat → Nat → List β) (a m : Nat) : List β := (List.range m).flatMap fun i => g a (a + 1 + i)
def allG {β : Type} (g : Nat → Nat → List β) (n k : Nat) : List β := (List.range k).flatMap fun a => rowG g a (n - (a + 1))
theorem rowG_succ {β : Type} (g : Nat → Nat → List β) (a m : Nat) : rowG g a (m + 1) = rowG g a m ++ g a (a + 1 + m) := by simp [rowG, List.range_succ]
theorem allG_succ {β : Type} (g : Nat → Nat → List β) (n k : Nat) : allG g n (k + 1) = allG g n k ++ rowG g k (n - (k + 1)) := by simp [allG, List.range_succ]
theorem prs_allG {β : Type} (g : Nat → Nat → List β) (n : Nat) : prs g (List.range n) = allG g n n := by
  rw [List.range_eq_range', prs_range']
  unfold allG rowG
  simp
theorem Ord.all_pairs {ps : List ShapeD} {ord : List Nat} (h : Ord ps ord) : (prsR (tg ps) ord ord.length).Perm (allT ps ps.length) := by
  refine (prsR_perm (tg ps) ord _ (Nat.le_refl _)).trans ?_
  rw [List.take_length]
  refine (prs_perm (tg ps) (tg_symm ps) h.perm).trans ?_
  rw [prs_allG]
  have e : allG (tg ps) ps.length ps.length = allT ps ps.length := by
    unfold allG allT rowG rowT
    congr 1
    funext a
    congr 1
    funext i
    unfold tg
    rw [Nat.min_eq_left (by omega), Nat.max_eq_right (by omega)]
  rw [e]
theorem Ord.all_looked {ps : List ShapeD} {ord : List Nat} (h : Ord ps ord) : (prsR (og ps) ord ord.length).length = (allG (og ps) ps.length ps.length).length := by
  rw [(prsR_perm (og ps) ord _ (Nat.le_refl _)).length_eq, List.take_length, (prs_perm (og ps) (og_symm ps) h.perm).length_eq, prs_allG]
theorem og_len (ps : List ShapeD) (a b : Nat) : (og ps a b).length ≤ 1 := by
  unfold og
  split <;> simp
theorem rowO_len (ps : List ShapeD) (a : Nat) : ∀ m, (rowG (og ps) a m).length ≤ m
  | 0 => by simp [rowG]
  | m + 1 => by
    have := rowO_len ps a m
    have := og_len ps a (a + 1 + m)
    rw [rowG_succ, List.length_append]
    omega
theorem allO_len {ps : List ShapeD} {n : Nat} (h : n ≤ 40) : ∀ k, (allG (og ps) n k).length ≤ 40 * k
  | 0 => by simp [allG]
  | k + 1 => by
    have := allO_len (ps := ps) h k
    have := rowO_len ps k (n - (k + 1))
    rw [allG_succ, List.length_append]
    omega

end Go.Proofs.Ytfibikkbhbmfkaa
