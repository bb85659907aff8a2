/-
  Lists of binds: their cells set; marks; free of the program.
-/
import Derived.Test.YthkfpbknfjapaaaBinds
import Derived.Test.YthkfpbknfjapaaaText
namespace Go.Proofs.Ythkfpbknfjapaaa
open Go.ChangeShapes Go.WideShapes Go.ChangeAt Go.RowKit

set_option maxRecDepth 100000
set_option linter.unusedVariables false

theorem set2 {α : Type} (l : List α) (i : Nat) (x y : α) : (l.set i x).set i y = l.set i y := by simp
theorem get_self {α : Type} {l : List α} {i : Nat} (x : α) (h : i < l.length) : (l.set i x)[i]? = some x := List.getElem?_set_self h
theorem BindO.cells {w : World} {lo hi g cap m : Nat} {ps : List BindE} (h : BindO w lo hi (.slice (some ⟨g, 0, none⟩) m cap) ps) {i : Nat} {p : BindE} (hp : ps[i]? = some p) :
    (∀ j u, (bindC p)[j]? = some u → w.cell? ⟨g, i * 2 + j, none⟩ = some u) ∧ ∀ o, w.frozen? ⟨g, o, none⟩ = false := own_get 2 bindC bindC_len (by omega) h.row hp
/-- The text of an element is set: its list stays. -/
theorem BindO.put {w : World} {lo hi g cap m : Nat} {ps : List BindE} (h : BindO w lo hi (.slice (some ⟨g, 0, none⟩) m cap) ps) (hn : m = ps.length) {i : Nat} {p : BindE} (hp : ps[i]? = some p) (t : ByteArray) :
    BindO (w.setCell ⟨g, i * 2, none⟩ (.string t)) lo hi (.slice (some ⟨g, 0, none⟩) m cap) (ps.set i (t, p.2)) := by
  subst hn
  have hap : ∀ (k : Nat) (z : BindE), ps[k]? = some z → NumO (w.setCell ⟨g, i * 2, none⟩ (.string t)) lo hi z.2.1 z.2.2 := fun k z hz =>
    RowO.apart (h.inn k z hz) (but_set w g ps.length cap (i * 2) (.string t)) (ap_types h.row (h.inn k z hz) (by decide)).symm
  refine ⟨?_, fun k z hz => ?_, fun k n z z' hkn hz hz' => ?_⟩
  · have := RowO.set h.row (2 * i + 0) (.string t)
    rw [List.length_set, Nat.mul_comm i 2]
    rw [flat_set 2 bindC bindC_len ps i 0 p (t, p.2) (.string t) hp (by omega) rfl] at this
    exact this
  · rcases get_set hz with ⟨_, rfl⟩ | ⟨_, hz⟩
    · exact hap i p hp
    · exact hap k z hz
  · rcases get_set hz with ⟨h1, rfl⟩ | ⟨h1, g1⟩
    · rcases get_set hz' with ⟨h2, rfl⟩ | ⟨_, g2⟩
      · exact absurd (h1.trans h2.symm) hkn
      · exact h.apart i n p z' (fun e => hkn (h1.trans e)) hp g2
    · rcases get_set hz' with ⟨h2, rfl⟩ | ⟨_, g2⟩
      · exact h.apart k i z p (fun e => hkn (e.trans h2.symm)) g1 hp
      · exact h.apart k n z z' hkn g1 g2
/-- The list of an element is written over. -/
theorem BindO.inner {w w' : World} {lo hi : Nat} {v : Value} {ps : List BindE} (h : BindO w lo hi v ps) {i : Nat} {p : BindE} (hp : ps[i]? = some p) {l' : List NumD} (k : But (blo p.2.1) (bhi p.2.1) w w') (hk : NumO w' lo hi p.2.1 l') : BindO w' lo hi v (ps.set i (p.1, (p.2.1, l'))) := by
  have hil : i < ps.length := (List.getElem?_eq_some_iff.1 hp).1
  have hc : (ps.set i (p.1, (p.2.1, l'))).flatMap bindC = ps.flatMap bindC := by
    have e : ∀ ys : List BindE, ys.flatMap bindC = (ys.map fun y => bindC y).flatten := fun ys => by rw [List.flatMap_def]
    rw [e, e]
    congr 1
    apply List.ext_getElem?
    intro n
    rw [List.getElem?_map, List.getElem?_map, List.getElem?_set]
    by_cases hn : i = n
    · subst hn
      rw [if_pos rfl, hp]
      simp [hil, bindC]
    · rw [if_neg hn]
  refine ⟨?_, fun j z hz => ?_, fun j m z z' hjm hz hz' => ?_⟩
  · rw [List.length_set, hc]
    exact RowO.apart h.row k (ap_types h.row (h.inn i p hp) (by decide))
  · rcases get_set hz with ⟨_, rfl⟩ | ⟨hji, hz⟩
    · exact hk
    · exact RowO.apart (h.inn j z hz) k (h.apart j i z p hji hz hp)
  · rcases get_set hz with ⟨hj, rfl⟩ | ⟨hj, hz⟩
    · rcases get_set hz' with ⟨hm, rfl⟩ | ⟨_, hz'⟩
      · exact absurd (hj.trans hm.symm) hjm
      · exact h.apart i m p z' (fun e => hjm (hj.trans e)) hp hz'
    · rcases get_set hz' with ⟨hm, rfl⟩ | ⟨_, hz'⟩
      · exact h.apart j i z p (fun e => hjm (e.trans hm.symm)) hz hp
      · exact h.apart j m z z' hjm hz hz'
/-- How many marks a list takes; the marked list. -/
def bMk (ds : List BindD) : Nat := (ds.map fun d => d.2.length + 1).sum
theorem bMk_snoc (l : List BindD) (p : BindD) : bMk (l ++ [p]) = bMk l + (p.2.length + 1) := by simp [bMk]
theorem bMk_take (l : List BindD) (k : Nat) : bMk (l.take k) ≤ bMk l := by
  have h := congrArg bMk (List.take_append_drop k l)
  have h2 : ∀ a b : List BindD, bMk (a ++ b) = bMk a + bMk b := fun a b => by simp [bMk]
  rw [h2] at h
  omega
theorem bMk_cost (ds : List BindD) : bMk ds ≤ bindsCost ds := by
  unfold bMk bindsCost
  induction ds with
  | nil => simp
  | cons d ds ih =>
    simp only [List.map_cons, List.sum_cons, List.length_cons] at ih ⊢
    have : d.2.length ≤ bindsOne d := by unfold bindsOne; omega
    omega
def mk1 (k : Nat) (p : BindE) : BindE := (mtext k, (p.2.1, mNum (k + 1) p.2.2.length))
def mkE : Nat → List BindE → List BindE
  | _, [] => []
  | k, p :: ps => mk1 k p :: mkE (k + (p.2.2.length + 1)) ps
def mkD : Nat → List BindD → List BindD
  | _, [] => []
  | k, p :: ps => (mtext k, mNum (k + 1) p.2.length) :: mkD (k + (p.2.length + 1)) ps
theorem mkE_strip : ∀ (k : Nat) (ts : List BindE), (mkE k ts).map stripBind = mkD k (ts.map stripBind)
  | _, [] => rfl
  | k, p :: ps => by
    rw [mkE, List.map_cons, mkE_strip, List.map_cons, mkD]
    rfl
theorem mkE_len : ∀ (k : Nat) (ps : List BindE), (mkE k ps).length = ps.length
  | _, [] => rfl
  | k, p :: ps => by rw [mkE, List.length_cons, mkE_len, List.length_cons]
theorem mkD_len : ∀ (k : Nat) (ps : List BindD), (mkD k ps).length = ps.length
  | _, [] => rfl
  | k, p :: ps => by rw [mkD, List.length_cons, mkD_len, List.length_cons]
def eMk (ts : List BindE) : Nat := bMk (ts.map stripBind)
theorem eMk_snoc (l : List BindE) (p : BindE) : eMk (l ++ [p]) = eMk l + (p.2.2.length + 1) := by
  unfold eMk
  rw [List.map_append]
  exact bMk_snoc _ _
theorem eMk_take (l : List BindE) (k : Nat) : eMk (l.take k) ≤ eMk l := by
  unfold eMk
  rw [List.map_take]
  exact bMk_take _ _
theorem mkE_snoc : ∀ (k : Nat) (ps : List BindE) (p : BindE), mkE k (ps ++ [p]) = mkE k ps ++ [mk1 (k + eMk ps) p]
  | k, [], p => by simp [mkE, eMk, bMk]
  | k, q :: ps, p => by
    rw [List.cons_append, mkE, mkE, mkE_snoc, List.cons_append]
    congr 3
    simp [eMk, bMk, stripBind]
    congr 1
    omega
theorem mkD_get : ∀ (k : Nat) (ps : List BindD) (j : Nat) (p : BindD), ps[j]? = some p → (mkD k ps)[j]? = some (mtext (k + bMk (ps.take j)), mNum (k + bMk (ps.take j) + 1) p.2.length)
  | k, [], j, p, h => by simp at h
  | k, q :: ps, 0, p, h => by
    simp at h
    subst h
    simp [mkD, bMk]
  | k, q :: ps, j + 1, p, h => by
    simp at h
    rw [mkD, List.getElem?_cons_succ, mkD_get _ ps j p h]
    have e : k + (q.2.length + 1) + bMk (ps.take j) = k + bMk ((q :: ps).take (j + 1)) := by simp [bMk]; omega
    rw [e]
theorem mix_at {k j : Nat} {ps : List BindE} {p : BindE} (hp : ps[j]? = some p) : (mkE k (ps.take j) ++ ps.drop j)[j]? = some p ∧ ∀ q, (mkE k (ps.take j) ++ ps.drop j).set j q = mkE k (ps.take j) ++ q :: ps.drop (j + 1) := by
  have hj : j < ps.length := (List.getElem?_eq_some_iff.1 hp).1
  have hl : (mkE k (ps.take j)).length = j := by rw [mkE_len, List.length_take]; omega
  have hd : ps.drop j = p :: ps.drop (j + 1) := by
    rw [List.drop_eq_getElem_cons hj]
    congr 1
    have := List.getElem?_eq_getElem hj
    rw [hp] at this
    exact (Option.some.inj this).symm
  rw [hd]
  refine ⟨by rw [List.getElem?_append_right (by omega), hl]; simp, fun q => ?_⟩
  rw [List.set_append_right _ _ (by omega), hl]
  simp

end Go.Proofs.Ythkfpbknfjapaaa
