/-
  Pairs of those that touch: free of the program.
-/
import Derived.Test.YtfibikkbhbmfkaaTouch9
namespace Go.Proofs.Ytfibikkbhbmfkaa
open Go.ChangeShapes Go.WideShapes Go.ChangeAt Go.RowKit

set_option maxRecDepth 100000
set_option linter.unusedVariables false
set_option linter.unusedSimpArgs false
/-- What each two of a list give, the first one held against all behind it. -/
def prs {α β : Type} (f : α → α → List β) : List α → List β
  | [] => []
  | a :: l => l.flatMap (f a) ++ prs f l

theorem prs_perm {α β : Type} (f : α → α → List β) (hs : ∀ a b, f a b = f b a) {l l' : List α} (h : l.Perm l') : (prs f l).Perm (prs f l') := by
  induction h with
  | nil => exact .refl _
  | cons a h ih => exact (h.flatMap_right _).append ih
  | swap a b l =>
    simp only [prs, List.flatMap_cons, List.append_assoc]
    rw [hs a b]
    refine List.Perm.append_left _ ?_
    rw [← List.append_assoc, ← List.append_assoc]
    exact List.perm_append_comm.append_right _
  | trans _ _ h1 h2 => exact h1.trans h2

theorem prs_snoc {α β : Type} (f : α → α → List β) (x : α) : ∀ l : List α, (prs f (l ++ [x])).Perm (prs f l ++ l.flatMap (fun a => f a x))
  | [] => by simp [prs]
  | a :: l => by
    simp only [List.cons_append, prs, List.flatMap_append, List.flatMap_cons, List.flatMap_nil, List.append_nil, List.append_assoc]
    refine List.Perm.append_left _ ?_
    refine ((prs_snoc f x l).append_left _).trans ?_
    rw [← List.append_assoc, ← List.append_assoc]
    exact List.perm_append_comm.append_right _

/-- The same, each one held against all ahead of it. -/
def prsR {α β : Type} (f : α → α → List β) (l : List α) : Nat → List β
  | 0 => []
  | j + 1 => prsR f l j ++ match l[j]? with
    | some x => (l.take j).flatMap (fun a => f a x)
    | none => []

theorem prsR_perm {α β : Type} (f : α → α → List β) (l : List α) : ∀ j, j ≤ l.length → (prsR f l j).Perm (prs f (l.take j))
  | 0, _ => by simp [prsR, prs]
  | j + 1, h => by
    have ih := prsR_perm f l j (by omega)
    have e : l[j]? = some l[j] := List.getElem?_eq_getElem (by omega)
    rw [List.take_add_one, e]
    simp only [prsR, e, Option.toList]
    exact (ih.append_right _).trans (prs_snoc f _ _).symm

theorem prs_len {α β γ : Type} (f : α → α → List β) (g : α → α → List γ) : ∀ (l : List α), (∀ a ∈ l, ∀ b ∈ l, (f a b).length = (g a b).length) → (prs f l).length = (prs g l).length
  | [], _ => rfl
  | a :: l, h => by
    simp only [prs, List.length_append]
    rw [prs_len f g l (fun x hx y hy => h x (.tail _ hx) y (.tail _ hy))]
    congr 1
    have : ∀ m : List α, (∀ b ∈ m, (f a b).length = (g a b).length) → (m.flatMap (f a)).length = (m.flatMap (g a)).length := by
      intro m hm
      induction m with
      | nil => rfl
      | cons b m ih =>
        simp only [List.flatMap_cons, List.length_append]
        rw [hm b (.head _), ih (fun b hb => hm b (.tail _ hb))]
    exact this l (fun b hb => h a (.head _) b (.tail _ hb))

/-- Of two lists that hold the same and rise by a total order one is the other. -/
theorem sorted_eq {α : Type} (lt : α → α → Bool) (hir : ∀ a, lt a a = false) (htr : ∀ a b c, lt a b = true → lt b c = true → lt a c = true) (hto : ∀ a b, lt a b = false → lt b a = false → a = b) {l d : List α} (hp : d.Perm l)
    (hl : l.Pairwise (fun a b => lt b a = false)) (hd : d.Pairwise (fun a b => lt b a = false)) : d = l :=
  hp.eq_of_pairwise (fun a b _ _ h1 h2 => hto a b h2 h1) hd hl

/-- What two of a list give: their pair where they touch. -/
def tf (ps : List ShapeD) (a b : Nat) : List PairD := match ps[a]?, ps[b]? with
  | some p, some q => if TouchP p q then [((a : Int), (b : Int))] else []
  | _, _ => []
def rowT (ps : List ShapeD) (a m : Nat) : List PairD := (List.range m).flatMap fun i => tf ps a (a + 1 + i)
def allT (ps : List ShapeD) (k : Nat) : List PairD := (List.range k).flatMap fun a => rowT ps a (ps.length - (a + 1))
theorem rowT_succ (ps : List ShapeD) (a m : Nat) : rowT ps a (m + 1) = rowT ps a m ++ tf ps a (a + 1 + m) := by simp [rowT, List.range_succ]
theorem allT_succ (ps : List ShapeD) (k : Nat) : allT ps (k + 1) = allT ps k ++ rowT ps k (ps.length - (k + 1)) := by simp [allT, List.range_succ]
theorem tf_len (ps : List ShapeD) (a b : Nat) : (tf ps a b).length ≤ 1 := by
  unfold tf
  split
  · split <;> simp
  · simp
theorem rowT_len (ps : List ShapeD) (a : Nat) : ∀ m, (rowT ps a m).length ≤ m
  | 0 => by simp [rowT]
  | m + 1 => by
    have := rowT_len ps a m
    have := tf_len ps a (a + 1 + m)
    rw [rowT_succ, List.length_append]
    omega
theorem allT_len {ps : List ShapeD} (h : ps.length ≤ 40) : ∀ k, (allT ps k).length ≤ 40 * k
  | 0 => by simp [allT]
  | k + 1 => by
    have := allT_len h k
    have := rowT_len ps k (ps.length - (k + 1))
    rw [allT_succ, List.length_append]
    omega
theorem tf_yes {ps : List ShapeD} {a b : Nat} {p q : ShapeD} (h1 : ps[a]? = some p) (h2 : ps[b]? = some q) (h : decide (TouchP p q) = true) : tf ps a b = [((a : Int), (b : Int))] := by
  unfold tf
  rw [h1, h2]
  exact if_pos (of_decide_eq_true h)
theorem tf_no {ps : List ShapeD} {a b : Nat} {p q : ShapeD} (h1 : ps[a]? = some p) (h2 : ps[b]? = some q) (h : decide (TouchP p q) = false) : tf ps a b = [] := by
  unfold tf
  rw [h1, h2]
  exact if_neg (of_decide_eq_false h)
theorem prs_range' {β : Type} (g : Nat → Nat → List β) : ∀ m s, prs g (List.range' s m) = (List.range m).flatMap fun i => (List.range (m - (i + 1))).flatMap fun j => g (s + i) (s + i + 1 + j)
  | 0, s => by simp [prs]
  | m + 1, s => by
    rw [List.range'_succ, prs, prs_range' g m (s + 1), List.range_succ_eq_map, List.flatMap_cons, List.flatMap_map]
    congr 1
    · rw [Nat.add_sub_cancel, List.range'_eq_map_range, List.flatMap_map]
      simp
    · congr 1
      funext i
      rw [show m + 1 - (i.succ + 1) = m - (i + 1) by omega, show s + 1 + i = s + i.succ by omega]
theorem prs_allT (ps : List ShapeD) : prs (tf ps) (List.range ps.length) = allT ps ps.length := by
  rw [List.range_eq_range', prs_range']
  unfold allT rowT
  simp
/-- Pairs in the order of numbers. -/
def pairLt (a b : PairD) : Bool := decide (a.1 < b.1) || decide (a.1 = b.1) && decide (a.2 < b.2)
theorem tf_form {ps : List ShapeD} {a b : Nat} {x : PairD} (h : x ∈ tf ps a b) : x = ((a : Int), (b : Int)) := by
  unfold tf at h
  split at h
  · split at h
    · simpa using h
    · simp at h
  · simp at h
theorem rowT_form {ps : List ShapeD} {a : Nat} : ∀ {m : Nat} {x : PairD}, x ∈ rowT ps a m → ∃ i, i < m ∧ x = ((a : Int), ((a + 1 + i : Nat) : Int)) := by
  intro m x h
  simp only [rowT, List.mem_flatMap, List.mem_range] at h
  obtain ⟨i, hi, hx⟩ := h
  exact ⟨i, hi, tf_form hx⟩
theorem tf_sorted (ps : List ShapeD) (a b : Nat) : (tf ps a b).Pairwise (fun x y => pairLt x y = true) := by
  unfold tf
  split
  · split <;> simp
  · simp
theorem rowT_sorted (ps : List ShapeD) (a : Nat) : ∀ m, (rowT ps a m).Pairwise (fun x y => pairLt x y = true)
  | 0 => by simp [rowT]
  | m + 1 => by
    rw [rowT_succ, List.pairwise_append]
    refine ⟨rowT_sorted ps a m, tf_sorted ps _ _, fun x hx y hy => ?_⟩
    obtain ⟨i, hi, rfl⟩ := rowT_form hx
    rw [tf_form hy]
    simp [pairLt]
    omega
theorem allT_sorted (ps : List ShapeD) : ∀ k, (allT ps k).Pairwise (fun x y => pairLt x y = true)
  | 0 => by simp [allT]
  | k + 1 => by
    rw [allT_succ, List.pairwise_append]
    refine ⟨allT_sorted ps k, rowT_sorted ps k _, fun x hx y hy => ?_⟩
    obtain ⟨i, hi, rfl⟩ := rowT_form hy
    simp only [allT, List.mem_flatMap, List.mem_range] at hx
    obtain ⟨a, ha, hx⟩ := hx
    obtain ⟨j, hj, rfl⟩ := rowT_form hx
    simp [pairLt]
    omega

end Go.Proofs.Ytfibikkbhbmfkaa
