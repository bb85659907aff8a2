/-
  Box: as plain data, and how lists of them lie in memory.
-/
import Derived.Test.YtaofilinejanjaaRows
import Derived.Test.YtaofilinejanjaaBase
namespace Go.Proofs.Ytaofilinejanjaa
open Go.ChangeShapes Go.WideShapes Go.ChangeAt Go.RowKit
abbrev BoxD := Int × Int × Int × Int × Int
def boxC (p : BoxD) : List Value := [.int .i64 p.1, .int .i64 p.2.1, .int .i64 p.2.2.1, .int .i64 p.2.2.2.1, .int .i64 p.2.2.2.2]
theorem boxC_len (p : BoxD) : (boxC p).length = 5 := rfl
def box0 : BoxD := (0, 0, 0, 0, 0)
def BoxAt (w : World) (v : Value) (ps : List BoxD) : Prop := RowAt w v ps.length (ps.flatMap boxC)
def BoxO (w : World) (lo hi : Nat) (v : Value) (ps : List BoxD) : Prop := RowO w lo hi 52 5 v ps.length (ps.flatMap boxC)
theorem BoxAt.kept {w w' : World} {v : Value} {ps : List BoxD} (h : BoxAt w v ps) (k : Kept w w') : BoxAt w' v ps := RowAt.kept h k
theorem BoxO.kept {w w' : World} {lo hi : Nat} {v : Value} {ps : List BoxD} (h : BoxO w lo hi v ps) (k : Kept w w') : BoxO w' lo hi v ps := RowO.kept h k
theorem BoxO.but {w w' : World} {lo hi lo' hi' : Nat} {v : Value} {ps : List BoxD} (h : BoxO w lo hi v ps) (k : But lo' hi' w w') (ho : hi ≤ lo' ∨ hi' ≤ lo) : BoxO w' lo hi v ps := RowO.but h k ho
theorem BoxO.mono {w : World} {lo hi lo' hi' : Nat} {v : Value} {ps : List BoxD} (h : BoxO w lo hi v ps) (h1 : lo' ≤ lo) (h2 : hi ≤ hi') : BoxO w lo' hi' v ps := RowO.mono h h1 h2
theorem BoxO.low {w : World} {lo hi : Nat} {v : Value} {ps : List BoxD} (h : BoxO w lo hi v ps) : BoxO w lo w.heap.size v ps := RowO.low h
theorem BoxO.at {w : World} {lo hi : Nat} {v : Value} {ps : List BoxD} (h : BoxO w lo hi v ps) : BoxAt w v ps := own_row h.1
theorem BoxO.form {w : World} {lo hi : Nat} {v : Value} {ps : List BoxD} (h : BoxO w lo hi v ps) : ∃ ao cap, v = .slice ao ps.length cap := by
  obtain ⟨ao, cap, e, _⟩ := own_form h.1
  exact ⟨ao, cap, e⟩
theorem box_get {w : World} {v : Value} {ps : List BoxD} (h : BoxAt w v ps) {i : Nat} {p : BoxD} (hp : ps[i]? = some p) :
    ∃ b o cap, v = .slice (some ⟨b, o, none⟩) ps.length cap ∧ w.cell? ⟨b, o + i * 5, none⟩ = some (.int .i64 p.1) ∧ w.cell? ⟨b, o + i * 5 + 1, none⟩ = some (.int .i64 p.2.1) ∧ w.cell? ⟨b, o + i * 5 + 2, none⟩ = some (.int .i64 p.2.2.1) ∧ w.cell? ⟨b, o + i * 5 + 3, none⟩ = some (.int .i64 p.2.2.2.1) ∧ w.cell? ⟨b, o + i * 5 + 4, none⟩ = some (.int .i64 p.2.2.2.2) := by
  obtain ⟨b, o, cap, e, hc⟩ := row_get 5 boxC boxC_len (by omega) h hp
  exact ⟨b, o, cap, e, hc 0 _ rfl, hc 1 _ rfl, hc 2 _ rfl, hc 3 _ rfl, hc 4 _ rfl⟩
theorem BoxO.cells {w : World} {lo hi g cap n : Nat} {ps : List BoxD} (h : BoxO w lo hi (.slice (some ⟨g, 0, none⟩) n cap) ps) {i : Nat} {p : BoxD} (hp : ps[i]? = some p) :
    w.cell? ⟨g, i * 5, none⟩ = some (.int .i64 p.1) ∧ w.cell? ⟨g, i * 5 + 1, none⟩ = some (.int .i64 p.2.1) ∧ w.cell? ⟨g, i * 5 + 2, none⟩ = some (.int .i64 p.2.2.1) ∧ w.cell? ⟨g, i * 5 + 3, none⟩ = some (.int .i64 p.2.2.2.1) ∧ w.cell? ⟨g, i * 5 + 4, none⟩ = some (.int .i64 p.2.2.2.2) ∧ ∀ o, w.frozen? ⟨g, o, none⟩ = false := by
  obtain ⟨hc, hf⟩ := own_get 5 boxC boxC_len (by omega) h hp
  exact ⟨hc 0 _ rfl, hc 1 _ rfl, hc 2 _ rfl, hc 3 _ rfl, hc 4 _ rfl, hf⟩
theorem BoxO.set {w : World} {lo hi g cap n : Nat} {ps : List BoxD} (h : BoxO w lo hi (.slice (some ⟨g, 0, none⟩) n cap) ps) (hn : n = ps.length) {i : Nat} {p q : BoxD} (hp : ps[i]? = some p) (j : Nat) (hj : j < 5) (u : Value) (hu : (boxC p).set j u = boxC q) :
    BoxO (w.setCell ⟨g, i * 5 + j, none⟩ u) lo hi (.slice (some ⟨g, 0, none⟩) n cap) (ps.set i q) := by
  subst hn
  have := RowO.set h (i * 5 + j) u
  unfold BoxO
  rw [List.length_set]
  rw [Nat.mul_comm i 5] at this ⊢
  rw [flat_set 5 boxC boxC_len ps i j p q u hp hj hu] at this
  exact this
/-- An element of a row's own set anew, field by field. -/
theorem BoxO.store {w : World} {lo hi g cap n : Nat} {ps : List BoxD} (h : BoxO w lo hi (.slice (some ⟨g, 0, none⟩) n cap) ps) (hn : n = ps.length) {i : Nat} {p : BoxD} (hp : ps[i]? = some p) (q : BoxD) :
    (w.setCell ⟨g, i * 5, none⟩ (.int .i64 q.1)).cell? ⟨g, i * 5 + 1, none⟩ = some (.int .i64 p.2.1) ∧
    ((w.setCell ⟨g, i * 5, none⟩ (.int .i64 q.1)).setCell ⟨g, i * 5 + 1, none⟩ (.int .i64 q.2.1)).cell? ⟨g, i * 5 + 2, none⟩ = some (.int .i64 p.2.2.1) ∧
    (((w.setCell ⟨g, i * 5, none⟩ (.int .i64 q.1)).setCell ⟨g, i * 5 + 1, none⟩ (.int .i64 q.2.1)).setCell ⟨g, i * 5 + 2, none⟩ (.int .i64 q.2.2.1)).cell? ⟨g, i * 5 + 3, none⟩ = some (.int .i64 p.2.2.2.1) ∧
    ((((w.setCell ⟨g, i * 5, none⟩ (.int .i64 q.1)).setCell ⟨g, i * 5 + 1, none⟩ (.int .i64 q.2.1)).setCell ⟨g, i * 5 + 2, none⟩ (.int .i64 q.2.2.1)).setCell ⟨g, i * 5 + 3, none⟩ (.int .i64 q.2.2.2.1)).cell? ⟨g, i * 5 + 4, none⟩ = some (.int .i64 p.2.2.2.2) ∧
    BoxO (((((w.setCell ⟨g, i * 5, none⟩ (.int .i64 q.1)).setCell ⟨g, i * 5 + 1, none⟩ (.int .i64 q.2.1)).setCell ⟨g, i * 5 + 2, none⟩ (.int .i64 q.2.2.1)).setCell ⟨g, i * 5 + 3, none⟩ (.int .i64 q.2.2.2.1)).setCell ⟨g, i * 5 + 4, none⟩ (.int .i64 q.2.2.2.2)) lo hi (.slice (some ⟨g, 0, none⟩) n cap) (ps.set i q) := by
  have hi' : i < ps.length := (List.getElem?_eq_some_iff.1 hp).1
  have h1 := h.set (by simpa using hn) hp 0 (by omega) (.int .i64 q.1) (q := (q.1, p.2)) rfl
  have g1 : (ps.set i (q.1, p.2))[i]? = some (q.1, p.2) := by simp [hi']
  have h2 := h1.set (by simpa using hn) g1 1 (by omega) (.int .i64 q.2.1) (q := (q.1, q.2.1, p.2.2)) rfl
  have g2 : ((ps.set i (q.1, p.2)).set i (q.1, q.2.1, p.2.2))[i]? = some (q.1, q.2.1, p.2.2) := by simp [hi']
  have h3 := h2.set (by simpa using hn) g2 2 (by omega) (.int .i64 q.2.2.1) (q := (q.1, q.2.1, q.2.2.1, p.2.2.2)) rfl
  have g3 : (((ps.set i (q.1, p.2)).set i (q.1, q.2.1, p.2.2)).set i (q.1, q.2.1, q.2.2.1, p.2.2.2))[i]? = some (q.1, q.2.1, q.2.2.1, p.2.2.2) := by simp [hi']
  have h4 := h3.set (by simpa using hn) g3 3 (by omega) (.int .i64 q.2.2.2.1) (q := (q.1, q.2.1, q.2.2.1, q.2.2.2.1, p.2.2.2.2)) rfl
  have g4 : ((((ps.set i (q.1, p.2)).set i (q.1, q.2.1, p.2.2)).set i (q.1, q.2.1, q.2.2.1, p.2.2.2)).set i (q.1, q.2.1, q.2.2.1, q.2.2.2.1, p.2.2.2.2))[i]? = some (q.1, q.2.1, q.2.2.1, q.2.2.2.1, p.2.2.2.2) := by simp [hi']
  have h5 := h4.set (by simpa using hn) g4 4 (by omega) (.int .i64 q.2.2.2.2) (q := q) rfl
  refine ⟨(h1.cells g1).2.1, (h2.cells g2).2.2.1, (h3.cells g3).2.2.2.1, (h4.cells g4).2.2.2.2.1, by simpa using h5⟩

end Go.Proofs.Ytaofilinejanjaa
