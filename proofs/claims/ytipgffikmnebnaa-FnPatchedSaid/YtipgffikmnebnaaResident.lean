/-
  Residents: as plain data, and how lists of them lie in memory.
-/
import Derived.Test.YtipgffikmnebnaaRows
import Derived.Test.YtipgffikmnebnaaBase
namespace Go.Proofs.Ytipgffikmnebnaa
open Go.ChangeShapes Go.WideShapes Go.ChangeAt Go.RowKit
abbrev ResidentD := ByteArray × Int × Int × Int
def residentC (p : ResidentD) : List Value := [.string p.1, .int .i64 p.2.1, .int .i64 p.2.2.1, .int .i64 p.2.2.2]
theorem residentC_len (p : ResidentD) : (residentC p).length = 4 := rfl
def resident0 : ResidentD := (ByteArray.empty, 0, 0, 0)
def ResidentAt (w : World) (v : Value) (ps : List ResidentD) : Prop := RowAt w v ps.length (ps.flatMap residentC)
def ResidentO (w : World) (lo hi : Nat) (v : Value) (ps : List ResidentD) : Prop := RowO w lo hi 39 4 v ps.length (ps.flatMap residentC)
theorem ResidentAt.kept {w w' : World} {v : Value} {ps : List ResidentD} (h : ResidentAt w v ps) (k : Kept w w') : ResidentAt w' v ps := RowAt.kept h k
theorem ResidentO.kept {w w' : World} {lo hi : Nat} {v : Value} {ps : List ResidentD} (h : ResidentO w lo hi v ps) (k : Kept w w') : ResidentO w' lo hi v ps := RowO.kept h k
theorem ResidentO.but {w w' : World} {lo hi lo' hi' : Nat} {v : Value} {ps : List ResidentD} (h : ResidentO w lo hi v ps) (k : But lo' hi' w w') (ho : hi ≤ lo' ∨ hi' ≤ lo) : ResidentO w' lo hi v ps := RowO.but h k ho
theorem ResidentO.mono {w : World} {lo hi lo' hi' : Nat} {v : Value} {ps : List ResidentD} (h : ResidentO w lo hi v ps) (h1 : lo' ≤ lo) (h2 : hi ≤ hi') : ResidentO w lo' hi' v ps := RowO.mono h h1 h2
theorem ResidentO.low {w : World} {lo hi : Nat} {v : Value} {ps : List ResidentD} (h : ResidentO w lo hi v ps) : ResidentO w lo w.heap.size v ps := RowO.low h
theorem ResidentO.at {w : World} {lo hi : Nat} {v : Value} {ps : List ResidentD} (h : ResidentO w lo hi v ps) : ResidentAt w v ps := own_row h.1
theorem ResidentO.form {w : World} {lo hi : Nat} {v : Value} {ps : List ResidentD} (h : ResidentO w lo hi v ps) : ∃ ao cap, v = .slice ao ps.length cap := by
  obtain ⟨ao, cap, e, _⟩ := own_form h.1
  exact ⟨ao, cap, e⟩
theorem resident_get {w : World} {v : Value} {ps : List ResidentD} (h : ResidentAt w v ps) {i : Nat} {p : ResidentD} (hp : ps[i]? = some p) :
    ∃ b o cap, v = .slice (some ⟨b, o, none⟩) ps.length cap ∧ w.cell? ⟨b, o + i * 4, none⟩ = some (.string p.1) ∧ w.cell? ⟨b, o + i * 4 + 1, none⟩ = some (.int .i64 p.2.1) ∧ w.cell? ⟨b, o + i * 4 + 2, none⟩ = some (.int .i64 p.2.2.1) ∧ w.cell? ⟨b, o + i * 4 + 3, none⟩ = some (.int .i64 p.2.2.2) := by
  obtain ⟨b, o, cap, e, hc⟩ := row_get 4 residentC residentC_len (by omega) h hp
  exact ⟨b, o, cap, e, hc 0 _ rfl, hc 1 _ rfl, hc 2 _ rfl, hc 3 _ rfl⟩
theorem ResidentO.cells {w : World} {lo hi g cap n : Nat} {ps : List ResidentD} (h : ResidentO w lo hi (.slice (some ⟨g, 0, none⟩) n cap) ps) {i : Nat} {p : ResidentD} (hp : ps[i]? = some p) :
    w.cell? ⟨g, i * 4, none⟩ = some (.string p.1) ∧ w.cell? ⟨g, i * 4 + 1, none⟩ = some (.int .i64 p.2.1) ∧ w.cell? ⟨g, i * 4 + 2, none⟩ = some (.int .i64 p.2.2.1) ∧ w.cell? ⟨g, i * 4 + 3, none⟩ = some (.int .i64 p.2.2.2) ∧ ∀ o, w.frozen? ⟨g, o, none⟩ = false := by
  obtain ⟨hc, hf⟩ := own_get 4 residentC residentC_len (by omega) h hp
  exact ⟨hc 0 _ rfl, hc 1 _ rfl, hc 2 _ rfl, hc 3 _ rfl, hf⟩
theorem ResidentO.set {w : World} {lo hi g cap n : Nat} {ps : List ResidentD} (h : ResidentO w lo hi (.slice (some ⟨g, 0, none⟩) n cap) ps) (hn : n = ps.length) {i : Nat} {p q : ResidentD} (hp : ps[i]? = some p) (j : Nat) (hj : j < 4) (u : Value) (hu : (residentC p).set j u = residentC q) :
    ResidentO (w.setCell ⟨g, i * 4 + j, none⟩ u) lo hi (.slice (some ⟨g, 0, none⟩) n cap) (ps.set i q) := by
  subst hn
  have := RowO.set h (i * 4 + j) u
  unfold ResidentO
  rw [List.length_set]
  rw [Nat.mul_comm i 4] at this ⊢
  rw [flat_set 4 residentC residentC_len ps i j p q u hp hj hu] at this
  exact this
/-- An element of a row's own set anew, field by field. -/
theorem ResidentO.store {w : World} {lo hi g cap n : Nat} {ps : List ResidentD} (h : ResidentO w lo hi (.slice (some ⟨g, 0, none⟩) n cap) ps) (hn : n = ps.length) {i : Nat} {p : ResidentD} (hp : ps[i]? = some p) (q : ResidentD) :
    (w.setCell ⟨g, i * 4, none⟩ (.string q.1)).cell? ⟨g, i * 4 + 1, none⟩ = some (.int .i64 p.2.1) ∧
    ((w.setCell ⟨g, i * 4, none⟩ (.string q.1)).setCell ⟨g, i * 4 + 1, none⟩ (.int .i64 q.2.1)).cell? ⟨g, i * 4 + 2, none⟩ = some (.int .i64 p.2.2.1) ∧
    (((w.setCell ⟨g, i * 4, none⟩ (.string q.1)).setCell ⟨g, i * 4 + 1, none⟩ (.int .i64 q.2.1)).setCell ⟨g, i * 4 + 2, none⟩ (.int .i64 q.2.2.1)).cell? ⟨g, i * 4 + 3, none⟩ = some (.int .i64 p.2.2.2) ∧
    ResidentO ((((w.setCell ⟨g, i * 4, none⟩ (.string q.1)).setCell ⟨g, i * 4 + 1, none⟩ (.int .i64 q.2.1)).setCell ⟨g, i * 4 + 2, none⟩ (.int .i64 q.2.2.1)).setCell ⟨g, i * 4 + 3, none⟩ (.int .i64 q.2.2.2)) lo hi (.slice (some ⟨g, 0, none⟩) n cap) (ps.set i q) := by
  have hi' : i < ps.length := (List.getElem?_eq_some_iff.1 hp).1
  have h1 := h.set (by simpa using hn) hp 0 (by omega) (.string q.1) (q := (q.1, p.2)) rfl
  have g1 : (ps.set i (q.1, p.2))[i]? = some (q.1, p.2) := by simp [hi']
  have h2 := h1.set (by simpa using hn) g1 1 (by omega) (.int .i64 q.2.1) (q := (q.1, q.2.1, p.2.2)) rfl
  have g2 : ((ps.set i (q.1, p.2)).set i (q.1, q.2.1, p.2.2))[i]? = some (q.1, q.2.1, p.2.2) := by simp [hi']
  have h3 := h2.set (by simpa using hn) g2 2 (by omega) (.int .i64 q.2.2.1) (q := (q.1, q.2.1, q.2.2.1, p.2.2.2)) rfl
  have g3 : (((ps.set i (q.1, p.2)).set i (q.1, q.2.1, p.2.2)).set i (q.1, q.2.1, q.2.2.1, p.2.2.2))[i]? = some (q.1, q.2.1, q.2.2.1, p.2.2.2) := by simp [hi']
  have h4 := h3.set (by simpa using hn) g3 3 (by omega) (.int .i64 q.2.2.2) (q := q) rfl
  refine ⟨(h1.cells g1).2.1, (h2.cells g2).2.2.1, (h3.cells g3).2.2.2.1, by simpa using h4⟩

end Go.Proofs.Ytipgffikmnebnaa
