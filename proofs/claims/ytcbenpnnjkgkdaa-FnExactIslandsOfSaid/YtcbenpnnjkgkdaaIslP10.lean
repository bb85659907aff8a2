/-
  Which things hang together, free of the program.
-/
import Derived.Test.YtcbenpnnjkgkdaaBase
namespace Go.Proofs.Ytcbenpnnjkgkdaa
open Go.ChangeShapes Go.WideShapes Go.ChangeAt Go.RowKit
/-- Which things hang together: both are turned to the lesser first. -/
def mrg (of : List Int) (a b : Nat) : List Int := of.map fun v => if v = max (of.getD a 0) (of.getD b 0) then min (of.getD a 0) (of.getD b 0) else v
theorem mrg_len (of : List Int) (a b : Nat) : (mrg of a b).length = of.length := by simp [mrg]
def fst0 (n : Nat) : List Int := (List.range n).map fun (i : Nat) => (i : Int)
theorem fst0_len (n : Nat) : (fst0 n).length = n := by simp [fst0]
theorem fst0_get {n i : Nat} (h : i < n) : (fst0 n)[i]? = some (i : Int) := by simp [fst0, h]
def fstL (of : List Int) (ts : List (Int × Int)) : List Int := ts.foldl (fun o t => mrg o t.1.toNat t.2.toNat) of
theorem fstL_len (ts : List (Int × Int)) : ∀ of, (fstL of ts).length = of.length := by
  induction ts with
  | nil => intro of; rfl
  | cons t ts ih => intro of; show (fstL (mrg of _ _) ts).length = _; rw [ih, mrg_len]
theorem fstL_snoc (of : List Int) (ts : List (Int × Int)) (t : Int × Int) : fstL of (ts ++ [t]) = mrg (fstL of ts) t.1.toNat t.2.toNat := by simp [fstL, List.foldl_append]
/-- Each thing's first is a thing at or ahead of it, and its own first. -/
def FOk (of : List Int) : Prop := ∀ k, k < of.length → ∃ r : Nat, of[k]? = some (r : Int) ∧ r ≤ k ∧ of[r]? = some (r : Int)
theorem fok0 (n : Nat) : FOk (fst0 n) := fun k hk => by
  rw [fst0_len] at hk
  exact ⟨k, fst0_get hk, Nat.le_refl _, fst0_get hk⟩
theorem getD_of {of : List Int} {k : Nat} {v : Int} (h : of[k]? = some v) : of.getD k 0 = v := by simp [List.getD, h]
theorem fok_mrg {of : List Int} (h : FOk of) {a b : Nat} (ha : a < of.length) (hb : b < of.length) : FOk (mrg of a b) := by
  obtain ⟨x, hx, hxa, hxx⟩ := h a ha
  obtain ⟨y, hy, hyb, hyy⟩ := h b hb
  intro k hk
  rw [mrg_len] at hk
  obtain ⟨r, hr, hrk, hrr⟩ := h k hk
  have e : mrg of a b = of.map fun v => if v = max (x : Int) (y : Int) then min (x : Int) (y : Int) else v := by unfold mrg; rw [getD_of hx, getD_of hy]
  rw [e]
  have g : ∀ (j : Nat) (v : Int), of[j]? = some v → (of.map fun v => if v = max (x : Int) (y : Int) then min (x : Int) (y : Int) else v)[j]? = some (if v = max (x : Int) (y : Int) then min (x : Int) (y : Int) else v) := fun j v hj => by rw [List.getElem?_map, hj]; rfl
  by_cases hM : (r : Int) = max (x : Int) (y : Int)
  · refine ⟨min x y, by rw [g k _ hr, if_pos hM]; congr 1; omega, by omega, ?_⟩
    have hmm : of[min x y]? = some ((min x y : Nat) : Int) := by
      rcases Nat.le_total x y with hxy | hxy
      · rw [Nat.min_eq_left hxy]; exact hxx
      · rw [Nat.min_eq_right hxy]; exact hyy
    rw [g _ _ hmm]
    split <;> first | rfl | (congr 1; omega)
  · refine ⟨r, by rw [g k _ hr, if_neg hM], hrk, by rw [g r _ hrr, if_neg hM]⟩
theorem fok_fst {n : Nat} : ∀ (ts : List (Int × Int)) (of : List Int), FOk of → of.length = n → (∀ t ∈ ts, t.1.toNat < n ∧ t.2.toNat < n) → FOk (fstL of ts)
  | [], of, h, _, _ => h
  | t :: ts, of, h, hn, ht => by
    show FOk (fstL (mrg of _ _) ts)
    have h1 := ht t (List.mem_cons_self ..)
    exact fok_fst ts _ (fok_mrg h (by omega) (by omega)) (by rw [mrg_len, hn]) (fun u hu => ht u (List.mem_cons_of_mem _ hu))
/-- The first ones, and who belongs to one. -/
def rootB (of : List Int) (i : Nat) : Bool := of[i]? == some (i : Int)
def rtL (of : List Int) (n : Nat) : List Nat := (List.range n).filter (rootB of)
def meL (of : List Int) (n i : Nat) : List Int := ((List.range n).filter fun k => of[k]? == some (i : Int)).map fun (k : Nat) => (k : Int)
def isL (of : List Int) (n : Nat) : List (List Int) := (rtL of n).map (meL of n)
theorem rt_succ (of : List Int) (n : Nat) : rtL of (n + 1) = rtL of n ++ (if rootB of n then [n] else []) := by
  unfold rtL
  rw [List.range_succ, List.filter_append]
  congr 1
  cases h : rootB of n <;> simp [h]
theorem me_succ (of : List Int) (n i : Nat) : meL of (n + 1) i = meL of n i ++ (if of[n]? == some (i : Int) then [(n : Int)] else []) := by
  unfold meL
  rw [List.range_succ, List.filter_append, List.map_append]
  congr 1
  cases h : (of[n]? == some (i : Int)) <;> simp [h]
theorem rt_lt {of : List Int} {n i : Nat} (h : i ∈ rtL of n) : i < n := by unfold rtL at h; rw [List.mem_filter] at h; exact List.mem_range.1 h.1
theorem me_nil {of : List Int} (h : FOk of) {n : Nat} (hn : n ≤ of.length) : meL of n n = [] := by
  unfold meL
  rw [List.map_eq_nil_iff, List.filter_eq_nil_iff]
  intro k hk
  rw [List.mem_range] at hk
  obtain ⟨r, hr, hrk, _⟩ := h k (by omega)
  rw [hr]
  simp
  omega
theorem rt_idx (of : List Int) {r : Nat} (hr : rootB of r = true) : ∀ n, r < n → (rtL of n)[(rtL of r).length]? = some r
  | 0, h => by omega
  | n + 1, h => by
    rw [rt_succ]
    rcases Nat.lt_or_ge r n with hlt | hge
    · have := rt_idx of hr n hlt
      rw [List.getElem?_append_left (List.getElem?_eq_some_iff.1 this).1]
      exact this
    · have e : r = n := by omega
      subst e
      rw [hr]
      simp
theorem rt_nodup (of : List Int) (n : Nat) : (rtL of n).Nodup := List.Pairwise.filter _ List.nodup_range
/-- One more thing. -/
theorem is_root {of : List Int} (h : FOk of) {n : Nat} (hn : n < of.length) (hr : of[n]? = some (n : Int)) : isL of (n + 1) = isL of n ++ [[(n : Int)]] := by
  unfold isL
  rw [rt_succ, show rootB of n = true by unfold rootB; rw [hr]; simp, if_pos rfl, List.map_append]
  congr 1
  · refine List.map_congr_left fun i hi => ?_
    have := rt_lt hi
    rw [me_succ, hr]
    have : ¬ (n : Int) = (i : Int) := by omega
    simp [this]
  · simp [me_succ, hr, me_nil h (by omega : n ≤ of.length)]
theorem is_more {of : List Int} {n r : Nat} (hr : of[n]? = some (r : Int)) (hlt : r < n) (hrr : of[r]? = some (r : Int)) :
    (isL of n)[(rtL of r).length]? = some (meL of n r) ∧ isL of (n + 1) = (isL of n).set (rtL of r).length (meL of n r ++ [(n : Int)]) := by
  have hB : rootB of r = true := by unfold rootB; rw [hrr]; simp
  have hidx := rt_idx of hB n hlt
  have hnb : rootB of n = false := by unfold rootB; rw [hr]; simp; omega
  refine ⟨by unfold isL; rw [List.getElem?_map, hidx]; rfl, ?_⟩
  unfold isL
  rw [rt_succ, hnb]
  simp only [Bool.false_eq_true, if_false, List.append_nil]
  apply List.ext_getElem?
  intro j
  rw [List.getElem?_map, List.getElem?_set, List.getElem?_map, List.length_map]
  by_cases hj : (rtL of r).length = j
  · subst hj
    rw [if_pos rfl, if_pos (List.getElem?_eq_some_iff.1 hidx).1, hidx]
    simp [me_succ, hr]
  · rw [if_neg hj]
    cases hq : (rtL of n)[j]? with
    | none => rfl
    | some i =>
      have hne : i ≠ r := fun e => by
        subst e
        exact hj ((List.getElem?_inj (List.getElem?_eq_some_iff.1 hidx).1 (rt_nodup of n)).1 (by rw [hidx, hq]))
      simp [me_succ, hr]
      omega

end Go.Proofs.Ytcbenpnnjkgkdaa
