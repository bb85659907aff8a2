/-
  Cells of a row of voices set; the first of the least rank; what TakeVoice gives.
-/
import Derived.Test.YtapfafibhjpkdaaVApp15
namespace Go.Proofs.Ytapfafibhjpkdaa
open Go.ChangeShapes Go.WideShapes Go.ChangeAt Go.RowKit

set_option maxRecDepth 100000
set_option linter.unusedVariables false

theorem VoiceO.cells {w : World} {lo hi g cap m : Nat} {ps : List VoiceE} (h : VoiceO w lo hi (.slice (some ⟨g, 0, none⟩) m cap) ps) {i : Nat} {p : VoiceE} (hp : ps[i]? = some p) :
    (∀ j u, (voiceC p)[j]? = some u → w.cell? ⟨g, i * 6 + j, none⟩ = some u) ∧ ∀ o, w.frozen? ⟨g, o, none⟩ = false := own_get 6 voiceC voiceC_len (by omega) h.row hp
theorem VoiceO.get0 {w : World} {lo hi g cap m : Nat} {ps : List VoiceE} (h : VoiceO w lo hi (.slice (some ⟨g, 0, none⟩) m cap) ps) {i : Nat} {p : VoiceE} (hp : ps[i]? = some p) : w.cell? ⟨g, i * 6, none⟩ = some p.1.1 := (h.cells hp).1 0 _ rfl
/-- A cell of an element is set: its list stays. -/
theorem VoiceO.put {w : World} {lo hi g cap m : Nat} {ps : List VoiceE} (h : VoiceO w lo hi (.slice (some ⟨g, 0, none⟩) m cap) ps) (hn : m = ps.length) {i : Nat} {p : VoiceE} (hp : ps[i]? = some p) (j : Nat) (hj : j < 6) (u : Value) (q : VoiceE) (hu : (voiceC p).set j u = voiceC q) (hq : q.1 = p.1) :
    VoiceO (w.setCell ⟨g, i * 6 + j, none⟩ u) lo hi (.slice (some ⟨g, 0, none⟩) m cap) (ps.set i q) := by
  subst hn
  have hap : ∀ (k : Nat) (z : VoiceE), ps[k]? = some z → NumO (w.setCell ⟨g, i * 6 + j, none⟩ u) lo hi z.1.1 z.1.2 := fun k z hz =>
    RowO.apart (h.inn k z hz) (but_set w g ps.length cap (i * 6 + j) u) (ap_types h.row (h.inn k z hz) (by decide)).symm
  refine ⟨?_, fun k z hz => ?_, fun k n z z' hkn hz hz' => ?_⟩
  · have := RowO.set h.row (6 * i + j) u
    rw [List.length_set, Nat.mul_comm i 6]
    rw [flat_set 6 voiceC voiceC_len ps i j p q u hp hj hu] at this
    exact this
  · rcases get_set hz with ⟨_, rfl⟩ | ⟨_, hz⟩
    · rw [hq]; exact hap i p hp
    · exact hap k z hz
  · rcases get_set hz with ⟨h1, e1⟩ | ⟨h1, g1⟩
    · rcases get_set hz' with ⟨h2, e2⟩ | ⟨_, g2⟩
      · exact absurd (h1.trans h2.symm) hkn
      · rw [e1, hq]; exact h.apart i n p z' (fun e => hkn (h1.trans e)) hp g2
    · rcases get_set hz' with ⟨h2, e2⟩ | ⟨_, g2⟩
      · rw [e2, hq]; exact h.apart k i z p (fun e => hkn (e.trans h2.symm)) g1 hp
      · exact h.apart k n z z' hkn g1 g2
/-- The list of an element is set anew. -/
theorem VoiceO.put0 {w : World} {lo hi g cap m : Nat} {ps : List VoiceE} (h : VoiceO w lo hi (.slice (some ⟨g, 0, none⟩) m cap) ps) (hn : m = ps.length) {i : Nat} {p : VoiceE} (hp : ps[i]? = some p) (s : Value) (l : List NumD) (hs : NumO w lo hi s l) (hap : ∀ (k : Nat) (z : VoiceE), ps[k]? = some z → Ap z.1.1 s) :
    VoiceO (w.setCell ⟨g, i * 6, none⟩ s) lo hi (.slice (some ⟨g, 0, none⟩) m cap) (ps.set i ((s, l), p.2)) := by
  subst hn
  have hn2 : ∀ (z : VoiceE), NumO w lo hi z.1.1 z.1.2 → NumO (w.setCell ⟨g, i * 6, none⟩ s) lo hi z.1.1 z.1.2 := fun z hz =>
    RowO.apart hz (but_set w g ps.length cap (i * 6) s) (ap_types h.row hz (by decide)).symm
  refine ⟨?_, fun k z hz => ?_, fun k n z z' hkn hz hz' => ?_⟩
  · have := RowO.set h.row (6 * i + 0) s
    rw [List.length_set, Nat.mul_comm i 6]
    rw [flat_set 6 voiceC voiceC_len ps i 0 p ((s, l), p.2) s hp (by omega) rfl] at this
    simpa using this
  · rcases get_set hz with ⟨_, rfl⟩ | ⟨_, hz⟩
    · exact hn2 ((s, l), p.2) hs
    · exact hn2 z (h.inn k z hz)
  · rcases get_set hz with ⟨h1, rfl⟩ | ⟨h1, hz⟩
    · rcases get_set hz' with ⟨h2, rfl⟩ | ⟨_, hz'⟩
      · exact absurd (h1.trans h2.symm) hkn
      · exact (hap n z' hz').symm
    · rcases get_set hz' with ⟨h2, rfl⟩ | ⟨_, hz'⟩
      · exact hap k z hz
      · exact h.apart k n z z' hkn hz hz'
/-- The list of an element is written over. -/
theorem VoiceO.inner {w w' : World} {lo hi : Nat} {v : Value} {ps : List VoiceE} (h : VoiceO w lo hi v ps) {i : Nat} {p : VoiceE} (hp : ps[i]? = some p) {l' : List NumD} (k : But (blo p.1.1) (bhi p.1.1) w w') (hk : NumO w' lo hi p.1.1 l') : VoiceO w' lo hi v (ps.set i ((p.1.1, l'), p.2)) := by
  have hil : i < ps.length := (List.getElem?_eq_some_iff.1 hp).1
  have hc : (ps.set i ((p.1.1, l'), p.2)).flatMap voiceC = ps.flatMap voiceC := by
    have e : ∀ ys : List VoiceE, ys.flatMap voiceC = (ys.map fun y => voiceC y).flatten := fun ys => by rw [List.flatMap_def]
    rw [e, e]
    congr 1
    apply List.ext_getElem?
    intro n
    rw [List.getElem?_map, List.getElem?_map, List.getElem?_set]
    by_cases hn : i = n
    · subst hn
      rw [if_pos rfl, hp]
      simp [hil, voiceC]
    · rw [if_neg hn]
  refine ⟨?_, fun j z hz => ?_, fun j m z z' hjm hz hz' => ?_⟩
  · rw [List.length_set, hc]
    exact RowO.apart h.row k (ap_types h.row (h.inn i p hp) (by decide))
  · rcases get_set hz with ⟨_, rfl⟩ | ⟨hji, hz⟩
    · exact hk
    · exact RowO.apart (h.inn j z hz) k (h.apart j i z p hji hz hp)
  · rcases get_set hz with ⟨hj, rfl⟩ | ⟨hj, hz⟩
    · rcases get_set hz' with ⟨hm, rfl⟩ | ⟨_, hz'⟩
      · exact absurd (hj.trans hm.symm) hjm
      · exact h.apart i m p z' (fun e => hjm (hj.trans e)) hp hz'
    · rcases get_set hz' with ⟨hm, rfl⟩ | ⟨_, hz'⟩
      · exact h.apart j i z p (fun e => hjm (e.trans hm.symm)) hz hp
      · exact h.apart j m z z' hjm hz hz'
theorem set2 {α : Type} (l : List α) (i : Nat) (x y : α) : (l.set i x).set i y = l.set i y := by simp
theorem get_self {α : Type} {l : List α} {i : Nat} (x : α) (h : i < l.length) : (l.set i x)[i]? = some x := List.getElem?_set_self h
/-- Ranks, and the first of the least. -/
def rkN (ds : List VoiceD) (i : Nat) : Int := match ds[i]? with
  | some d => d.2.2.2.2.2
  | none => 0
def lst (ds : List VoiceD) : Nat → Nat
  | 0 => 0
  | k + 1 => if rkN ds k < rkN ds (lst ds k) then k else lst ds k
theorem rk_at {ds : List VoiceD} {i : Nat} {d : VoiceD} (h : ds[i]? = some d) : rkN ds i = d.2.2.2.2.2 := by
  unfold rkN
  rw [h]
theorem lst_le (ds : List VoiceD) : ∀ k, lst ds (k + 1) ≤ k
  | 0 => by unfold lst; split <;> simp [lst]
  | k + 1 => by
    have := lst_le ds k
    rw [lst]
    split <;> omega
theorem lst_lt (ds : List VoiceD) (k : Nat) (h : 0 < k) : lst ds k < k := by
  obtain ⟨j, rfl⟩ : ∃ j, k = j + 1 := ⟨k - 1, by omega⟩
  have := lst_le ds j
  omega
def takeR (ds : List VoiceD) (d : VoiceD) : List VoiceD × Int := if ds.length < 8 then (ds ++ [d], -1) else if d.2.2.2.2.2 < rkN ds (lst ds ds.length) then (ds, -2) else (ds.set (lst ds ds.length) d, (lst ds ds.length : Nat))

end Go.Proofs.Ytapfafibhjpkdaa
