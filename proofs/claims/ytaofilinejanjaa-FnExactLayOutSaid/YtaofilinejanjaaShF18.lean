/-
  The best one of those that have not been taken; free of the program.
-/
import Derived.Test.YtaofilinejanjaaShI18
import Derived.Test.YtaofilinejanjaaFlag18
namespace Go.Proofs.Ytaofilinejanjaa
open Go.ChangeShapes Go.WideShapes Go.ChangeAt Go.RowKit

set_option maxRecDepth 100000
set_option linter.unusedVariables false

/-- Which places have been taken. -/
def flg (D : List Int) (q n : Nat) : List Bool := (List.range n).map fun i : Nat => (D.take q).contains (i : Int)
theorem flg_len (D : List Int) (q n : Nat) : (flg D q n).length = n := by simp [flg]
theorem flg_get (D : List Int) (q n i : Nat) (h : i < n) : (flg D q n)[i]? = some ((D.take q).contains (i : Int)) := by simp [flg, h]
theorem flg_zero (D : List Int) (n : Nat) : flg D 0 n = List.replicate n false := by
  apply List.ext_getElem?
  intro i
  by_cases h : i < n
  · rw [flg_get _ _ _ _ h]; simp [h]
  · rw [List.getElem?_eq_none (by rw [flg_len]; omega), List.getElem?_eq_none (by simp; omega)]
theorem flg_set {D : List Int} {q n t : Nat} (h : D[q]? = some (t : Int)) (ht : t < n) : (flg D q n).set t true = flg D (q + 1) n := by
  apply List.ext_getElem?
  intro i
  by_cases hi : i < n
  · rw [flg_get _ _ _ _ hi, List.getElem?_set, take_snoc h]
    by_cases e : t = i
    · subst e
      simp [flg_len, ht]
    · rw [if_neg e, flg_get _ _ _ _ hi]
      congr 1
      rw [Bool.eq_iff_iff]
      simp
      omega
  · rw [List.getElem?_eq_none (by rw [List.length_set, flg_len]; omega), List.getElem?_eq_none (by rw [flg_len]; omega)]
theorem sel_is {r : Int → Int} {n q t : Nat} {D : List Int} {d : Int} (hp : D.Perm (pl n)) (hs : Srt r D) (hd : D[q]? = some d) (ht : t < n) (h1 : (D.take q).contains (t : Int) = false) (h2 : ∀ i : Nat, i < n → (D.take q).contains (i : Int) = false → i = t ∨ bef r (t : Int) (i : Int)) : d = (t : Int) := by
  have hnd : D.Nodup := hp.nodup_iff.2 (pl_nodup n)
  have hdn : d ∉ D.take q := fun h => by
    have e : D = D.take q ++ D.drop q := (List.take_append_drop _ _).symm
    rw [e] at hnd
    have hdd : d ∈ D.drop q := List.mem_iff_getElem?.2 ⟨0, by rw [List.getElem?_drop]; simpa using hd⟩
    exact (List.nodup_append.1 hnd).2.2 d h d hdd rfl
  have hdr := pl_rng n d (hp.mem_iff.1 (List.mem_of_getElem? hd))
  have h3 := h2 d.toNat (by omega) (by rw [show ((d.toNat : Nat) : Int) = d by omega]; simpa using hdn)
  rw [show ((d.toNat : Nat) : Int) = d by omega] at h3
  rcases h3 with h3 | h3
  · omega
  · have htm : (t : Int) ∈ D := hp.mem_iff.2 (by unfold pl; exact List.mem_map.2 ⟨t, List.mem_range.2 ht, rfl⟩)
    obtain ⟨k, hk⟩ := List.mem_iff_getElem?.1 htm
    rcases Nat.lt_trichotomy k q with hkq | hkq | hkq
    · exfalso
      have : (t : Int) ∈ D.take q := List.mem_iff_getElem?.2 ⟨k, by rw [List.getElem?_take_of_lt hkq]; exact hk⟩
      simp [this] at h1
    · subst hkq
      rw [hd] at hk
      exact Option.some.inj hk
    · obtain ⟨l1, e1⟩ := List.getElem?_eq_some_iff.1 hd
      obtain ⟨l2, e2⟩ := List.getElem?_eq_some_iff.1 hk
      have := List.pairwise_iff_getElem.1 hs q k l1 l2 hkq
      rw [e1, e2] at this
      exact absurd this (bef_asymm h3)
/-- The best one ahead of place j that has not been taken. -/
def Sel (r : Int → Int) (D : List Int) (q j : Nat) (b : Int) : Prop := (b = -1 ∧ ∀ i : Nat, i < j → (D.take q).contains (i : Int) = true) ∨ (∃ t : Nat, b = (t : Int) ∧ t < j ∧ (D.take q).contains (t : Int) = false ∧ ∀ i : Nat, i < j → (D.take q).contains (i : Int) = false → i = t ∨ bef r (t : Int) (i : Int))
theorem sel_had {r : Int → Int} {D : List Int} {q j : Nat} {b : Int} (h : Sel r D q j b) (hj : (D.take q).contains (j : Int) = true) : Sel r D q (j + 1) b := by
  rcases h with ⟨h1, h2⟩ | ⟨t, h1, h2, h3, h4⟩
  · exact .inl ⟨h1, all_more h2 hj⟩
  · exact .inr ⟨t, h1, by omega, h3, fun i hi hc => by
      by_cases e : i = j
      · subst e; rw [hj] at hc; cases hc
      · exact h4 i (by omega) hc⟩
theorem sel_first {r : Int → Int} {D : List Int} {q j : Nat} (h : Sel r D q j (-1)) (hj : (D.take q).contains (j : Int) = false) : Sel r D q (j + 1) (j : Int) := by
  rcases h with ⟨_, h2⟩ | ⟨t, h1, _⟩
  · exact .inr ⟨j, rfl, by omega, hj, fun i hi hc => by
      by_cases e : i = j
      · exact .inl e
      · rw [h2 i (by omega)] at hc; cases hc⟩
  · omega
theorem sel_more {r : Int → Int} {D : List Int} {q j t : Nat} (h : Sel r D q j (t : Int)) (hj : (D.take q).contains (j : Int) = false) (hr : r (t : Int) < r (j : Int)) : Sel r D q (j + 1) (j : Int) := by
  rcases h with ⟨h1, _⟩ | ⟨t', h1, h2, h3, h4⟩
  · omega
  · have e : t' = t := by omega
    subst e
    refine .inr ⟨j, rfl, by omega, hj, fun i hi hc => ?_⟩
    by_cases e : i = j
    · exact .inl e
    · right
      rcases h4 i (by omega) hc with h5 | h5
      · subst h5; exact .inl hr
      · exact bef_trans (.inl hr) h5
theorem sel_less {r : Int → Int} {D : List Int} {q j t : Nat} (h : Sel r D q j (t : Int)) (hr : ¬ r (t : Int) < r (j : Int)) : Sel r D q (j + 1) (t : Int) := by
  rcases h with ⟨h1, _⟩ | ⟨t', h1, h2, h3, h4⟩
  · omega
  · have e : t' = t := by omega
    subst e
    refine .inr ⟨t', rfl, by omega, h3, fun i hi hc => ?_⟩
    by_cases e : i = j
    · subst e
      right
      unfold bef
      omega
    · exact h4 i (by omega) hc
theorem rAt_get {left gs : Int} {grow : List Int} {k : Nat} {p : Int} (h : grow[k]? = some p) : rAt (rstL left gs grow) (k : Int) = left * p % gs := by unfold rAt; rw [Int.toNat_natCast, rst_get h]; rfl

end Go.Proofs.Ytaofilinejanjaa
