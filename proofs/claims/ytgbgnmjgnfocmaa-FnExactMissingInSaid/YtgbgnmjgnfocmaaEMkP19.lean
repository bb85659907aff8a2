/-
  Lists of entries: their cells set; marks; free of the program.
-/
import Derived.Test.YtgbgnmjgnfocmaaEntries
import Derived.Test.YtgbgnmjgnfocmaaText
namespace Go.Proofs.Ytgbgnmjgnfocmaa
open Go.ChangeShapes Go.WideShapes Go.ChangeAt Go.RowKit

set_option maxRecDepth 100000
set_option linter.unusedVariables false

theorem get_self {α : Type} {l : List α} {i : Nat} (x : α) (h : i < l.length) : (l.set i x)[i]? = some x := List.getElem?_set_self h
theorem EntryO.cells {w : World} {lo hi g cap m : Nat} {ps : List EntryE} (h : EntryO w lo hi (.slice (some ⟨g, 0, none⟩) m cap) ps) {i : Nat} {p : EntryE} (hp : ps[i]? = some p) :
    (∀ j u, (entryC p)[j]? = some u → w.cell? ⟨g, i * 3 + j, none⟩ = some u) ∧ ∀ o, w.frozen? ⟨g, o, none⟩ = false := own_get 3 entryC entryC_len (by omega) h.row hp

theorem EntryO.put0 {w : World} {lo hi g cap m : Nat} {ps : List EntryE} (h : EntryO w lo hi (.slice (some ⟨g, 0, none⟩) m cap) ps) (hn : m = ps.length) {i : Nat} {p : EntryE} (hp : ps[i]? = some p) (t : ByteArray) :
    EntryO (w.setCell ⟨g, i * 3, none⟩ (.string t)) lo hi (.slice (some ⟨g, 0, none⟩) m cap) (ps.set i (t, p.2)) := by
  subst hn
  have hap : ∀ (k : Nat) (z : EntryE), ps[k]? = some z → TxtO (w.setCell ⟨g, i * 3, none⟩ (.string t)) lo hi z.2.1.1 z.2.1.2 := fun k z hz =>
    RowO.apart (h.inn k z hz) (but_set w g ps.length cap (i * 3) (.string t)) (ap_types h.row (h.inn k z hz) (by decide)).symm
  refine ⟨?_, fun k z hz => ?_, fun k n z z' hkn hz hz' => ?_⟩
  · have := RowO.set h.row (3 * i + 0) (.string t)
    rw [List.length_set, Nat.mul_comm i 3]
    rw [flat_set 3 entryC entryC_len ps i 0 p (t, p.2) (.string t) hp (by omega) rfl] at this
    exact this
  · rcases get_set hz with ⟨_, rfl⟩ | ⟨_, hz⟩
    · exact hap i p hp
    · exact hap k z hz
  · rcases get_set hz with ⟨h1, rfl⟩ | ⟨h1, g1⟩
    · rcases get_set hz' with ⟨h2, rfl⟩ | ⟨_, g2⟩
      · exact absurd (h1.trans h2.symm) hkn
      · exact h.apart i n p z' (fun e => hkn (h1.trans e)) hp g2
    · rcases get_set hz' with ⟨h2, rfl⟩ | ⟨_, g2⟩
      · exact h.apart k i z p (fun e => hkn (e.trans h2.symm)) g1 hp
      · exact h.apart k n z z' hkn g1 g2

theorem EntryO.put2 {w : World} {lo hi g cap m : Nat} {ps : List EntryE} (h : EntryO w lo hi (.slice (some ⟨g, 0, none⟩) m cap) ps) (hn : m = ps.length) {i : Nat} {p : EntryE} (hp : ps[i]? = some p) (t : Bool) :
    EntryO (w.setCell ⟨g, i * 3 + 2, none⟩ (.bool t)) lo hi (.slice (some ⟨g, 0, none⟩) m cap) (ps.set i (p.1, p.2.1, t)) := by
  subst hn
  have hap : ∀ (k : Nat) (z : EntryE), ps[k]? = some z → TxtO (w.setCell ⟨g, i * 3 + 2, none⟩ (.bool t)) lo hi z.2.1.1 z.2.1.2 := fun k z hz =>
    RowO.apart (h.inn k z hz) (but_set w g ps.length cap (i * 3 + 2) (.bool t)) (ap_types h.row (h.inn k z hz) (by decide)).symm
  refine ⟨?_, fun k z hz => ?_, fun k n z z' hkn hz hz' => ?_⟩
  · have := RowO.set h.row (3 * i + 2) (.bool t)
    rw [List.length_set, Nat.mul_comm i 3]
    rw [flat_set 3 entryC entryC_len ps i 2 p (p.1, p.2.1, t) (.bool t) hp (by omega) rfl] at this
    exact this
  · rcases get_set hz with ⟨_, rfl⟩ | ⟨_, hz⟩
    · exact hap i p hp
    · exact hap k z hz
  · rcases get_set hz with ⟨h1, rfl⟩ | ⟨h1, g1⟩
    · rcases get_set hz' with ⟨h2, rfl⟩ | ⟨_, g2⟩
      · exact absurd (h1.trans h2.symm) hkn
      · exact h.apart i n p z' (fun e => hkn (h1.trans e)) hp g2
    · rcases get_set hz' with ⟨h2, rfl⟩ | ⟨_, g2⟩
      · exact h.apart k i z p (fun e => hkn (e.trans h2.symm)) g1 hp
      · exact h.apart k n z z' hkn g1 g2

theorem EntryO.inner {w w' : World} {lo hi : Nat} {v : Value} {ps : List EntryE} (h : EntryO w lo hi v ps) {i : Nat} {p : EntryE} (hp : ps[i]? = some p) {l' : List TxtD} (k : But (blo p.2.1.1) (bhi p.2.1.1) w w') (hk : TxtO w' lo hi p.2.1.1 l') : EntryO w' lo hi v (ps.set i (p.1, (p.2.1.1, l'), p.2.2)) := by
  have hil : i < ps.length := (List.getElem?_eq_some_iff.1 hp).1
  have hc : (ps.set i (p.1, (p.2.1.1, l'), p.2.2)).flatMap entryC = ps.flatMap entryC := by
    have e : ∀ ys : List EntryE, ys.flatMap entryC = (ys.map fun y => entryC y).flatten := fun ys => by rw [List.flatMap_def]
    rw [e, e]
    congr 1
    apply List.ext_getElem?
    intro n
    rw [List.getElem?_map, List.getElem?_map, List.getElem?_set]
    by_cases hn : i = n
    · subst hn
      rw [if_pos rfl, hp]
      simp [hil, entryC]
    · rw [if_neg hn]
  refine ⟨?_, fun j z hz => ?_, fun j m z z' hjm hz hz' => ?_⟩
  · rw [List.length_set, hc]
    exact RowO.apart h.row k (ap_types h.row (h.inn i p hp) (by decide))
  · rcases get_set hz with ⟨_, rfl⟩ | ⟨hji, hz⟩
    · exact hk
    · exact RowO.apart (h.inn j z hz) k (h.apart j i z p hji hz hp)
  · rcases get_set hz with ⟨hj, rfl⟩ | ⟨hj, hz⟩
    · rcases get_set hz' with ⟨hm, rfl⟩ | ⟨_, hz'⟩
      · exact absurd (hj.trans hm.symm) hjm
      · exact h.apart i m p z' (fun e => hjm (hj.trans e)) hp hz'
    · rcases get_set hz' with ⟨hm, rfl⟩ | ⟨_, hz'⟩
      · exact h.apart j i z p (fun e => hjm (e.trans hm.symm)) hz hp
      · exact h.apart j m z z' hjm hz hz'
/-- How many marks a list takes. -/
def eMk (ds : List EntryE) : Nat := (ds.map fun d => d.2.1.2.length + 2).sum
theorem eMk_snoc (l : List EntryE) (p : EntryE) : eMk (l ++ [p]) = eMk l + (p.2.1.2.length + 2) := by simp [eMk]
theorem eMk_take (l : List EntryE) (k : Nat) : eMk (l.take k) ≤ eMk l := by
  have h := congrArg eMk (List.take_append_drop k l)
  have h2 : ∀ a b : List EntryE, eMk (a ++ b) = eMk a + eMk b := fun a b => by simp [eMk]
  rw [h2] at h
  omega
def bMk (ds : List EntryD) : Nat := (ds.map fun d => d.2.1.length + 2).sum
theorem eMk_strip (ts : List EntryE) : eMk ts = bMk (ts.map stripEntry) := by unfold eMk bMk; rw [List.map_map]; rfl
theorem bMk_cost (ds : List EntryD) : bMk ds ≤ 2 * entriesCost ds := by
  unfold bMk entriesCost
  induction ds with
  | nil => simp
  | cons d ds ih =>
    simp only [List.map_cons, List.sum_cons, List.length_cons] at ih ⊢
    have : d.2.1.length ≤ entriesOne d := by unfold entriesOne txtCost; omega
    omega
/-- Lists whose forms are as many as those of others. -/
def Like (ys ps : List EntryE) : Prop := ys.length = ps.length ∧ ∀ (i : Nat) (y p : EntryE), ys[i]? = some y → ps[i]? = some p → y.2.1.2.length = p.2.1.2.length
theorem Like.set {ys ps : List EntryE} (h : Like ys ps) {j : Nat} {y : EntryE} (hy : ys[j]? = some y) (q : EntryE) (hq : q.2.1.2.length = y.2.1.2.length) : Like (ys.set j q) ps := by
  refine ⟨by rw [List.length_set]; exact h.1, fun i a p ha hp => ?_⟩
  rcases get_set ha with ⟨e, rfl⟩ | ⟨_, ha⟩
  · subst e
    rw [hq]
    exact h.2 i y p hy hp
  · exact h.2 i a p ha hp

end Go.Proofs.Ytgbgnmjgnfocmaa
