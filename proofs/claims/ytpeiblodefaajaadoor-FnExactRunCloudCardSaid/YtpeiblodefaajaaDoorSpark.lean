/-
  Sparks as plain data, and how lists of them lie in memory.
-/
import Derived.Test.YtpeiblodefaajaaDoorBase
namespace Go.Proofs.YtpeiblodefaajaaDoor
open Go.ChangeShapes Go.WideShapes Go.ChangeAt Go.RowKit
abbrev SparkD := Int × Int × Int × Int × Int
def sparkC (p : SparkD) : List Value := [.int .i64 p.1, .int .i64 p.2.1, .int .i64 p.2.2.1, .int .i64 p.2.2.2.1, .int .i64 p.2.2.2.2]
theorem sparkC_len (p : SparkD) : (sparkC p).length = 5 := rfl
def spark0 : SparkD := (0, 0, 0, 0, 0)
def SparkAt (w : World) (v : Value) (ps : List SparkD) : Prop := RowAt w v ps.length (ps.flatMap sparkC)
def SparkO (w : World) (lo hi : Nat) (v : Value) (ps : List SparkD) : Prop := RowO w lo hi 66 5 v ps.length (ps.flatMap sparkC)
theorem SparkAt.kept {w w' : World} {v : Value} {ps : List SparkD} (h : SparkAt w v ps) (k : Kept w w') : SparkAt w' v ps := RowAt.kept h k
theorem SparkO.kept {w w' : World} {lo hi : Nat} {v : Value} {ps : List SparkD} (h : SparkO w lo hi v ps) (k : Kept w w') : SparkO w' lo hi v ps := RowO.kept h k
theorem SparkO.but {w w' : World} {lo hi lo' hi' : Nat} {v : Value} {ps : List SparkD} (h : SparkO w lo hi v ps) (k : But lo' hi' w w') (ho : hi ≤ lo' ∨ hi' ≤ lo) : SparkO w' lo hi v ps := RowO.but h k ho
theorem SparkO.mono {w : World} {lo hi lo' hi' : Nat} {v : Value} {ps : List SparkD} (h : SparkO w lo hi v ps) (h1 : lo' ≤ lo) (h2 : hi ≤ hi') : SparkO w lo' hi' v ps := RowO.mono h h1 h2
theorem SparkO.low {w : World} {lo hi : Nat} {v : Value} {ps : List SparkD} (h : SparkO w lo hi v ps) : SparkO w lo w.heap.size v ps := RowO.low h
theorem SparkO.at {w : World} {lo hi : Nat} {v : Value} {ps : List SparkD} (h : SparkO w lo hi v ps) : SparkAt w v ps := own_row h.1
theorem SparkO.form {w : World} {lo hi : Nat} {v : Value} {ps : List SparkD} (h : SparkO w lo hi v ps) : ∃ ao cap, v = .slice ao ps.length cap := by
  obtain ⟨ao, cap, e, _⟩ := own_form h.1
  exact ⟨ao, cap, e⟩
theorem spark_get {w : World} {v : Value} {ps : List SparkD} (h : SparkAt w v ps) {i : Nat} {p : SparkD} (hp : ps[i]? = some p) :
    ∃ b o cap, v = .slice (some ⟨b, o, none⟩) ps.length cap ∧ w.cell? ⟨b, o + i * 5, none⟩ = some (.int .i64 p.1) ∧ w.cell? ⟨b, o + i * 5 + 1, none⟩ = some (.int .i64 p.2.1) ∧ w.cell? ⟨b, o + i * 5 + 2, none⟩ = some (.int .i64 p.2.2.1) ∧ w.cell? ⟨b, o + i * 5 + 3, none⟩ = some (.int .i64 p.2.2.2.1) ∧ w.cell? ⟨b, o + i * 5 + 4, none⟩ = some (.int .i64 p.2.2.2.2) := by
  obtain ⟨b, o, cap, e, hc⟩ := row_get 5 sparkC sparkC_len (by omega) h hp
  exact ⟨b, o, cap, e, hc 0 _ rfl, hc 1 _ rfl, hc 2 _ rfl, hc 3 _ rfl, hc 4 _ rfl⟩
theorem SparkO.cells {w : World} {lo hi g cap n : Nat} {ps : List SparkD} (h : SparkO w lo hi (.slice (some ⟨g, 0, none⟩) n cap) ps) {i : Nat} {p : SparkD} (hp : ps[i]? = some p) :
    w.cell? ⟨g, i * 5, none⟩ = some (.int .i64 p.1) ∧ w.cell? ⟨g, i * 5 + 1, none⟩ = some (.int .i64 p.2.1) ∧ w.cell? ⟨g, i * 5 + 2, none⟩ = some (.int .i64 p.2.2.1) ∧ w.cell? ⟨g, i * 5 + 3, none⟩ = some (.int .i64 p.2.2.2.1) ∧ w.cell? ⟨g, i * 5 + 4, none⟩ = some (.int .i64 p.2.2.2.2) ∧ ∀ o, w.frozen? ⟨g, o, none⟩ = false := by
  obtain ⟨hc, hf⟩ := own_get 5 sparkC sparkC_len (by omega) h hp
  exact ⟨hc 0 _ rfl, hc 1 _ rfl, hc 2 _ rfl, hc 3 _ rfl, hc 4 _ rfl, hf⟩
theorem SparkO.set {w : World} {lo hi g cap n : Nat} {ps : List SparkD} (h : SparkO w lo hi (.slice (some ⟨g, 0, none⟩) n cap) ps) (hn : n = ps.length) {i : Nat} {p q : SparkD} (hp : ps[i]? = some p) (j : Nat) (hj : j < 5) (u : Value) (hu : (sparkC p).set j u = sparkC q) :
    SparkO (w.setCell ⟨g, i * 5 + j, none⟩ u) lo hi (.slice (some ⟨g, 0, none⟩) n cap) (ps.set i q) := by
  subst hn
  have := RowO.set h (i * 5 + j) u
  unfold SparkO
  rw [List.length_set]
  rw [Nat.mul_comm i 5] at this ⊢
  rw [flat_set 5 sparkC sparkC_len ps i j p q u hp hj hu] at this
  exact this
/-- An element of a row's own set anew, field by field. -/
theorem SparkO.store {w : World} {lo hi g cap n : Nat} {ps : List SparkD} (h : SparkO w lo hi (.slice (some ⟨g, 0, none⟩) n cap) ps) (hn : n = ps.length) {i : Nat} {p : SparkD} (hp : ps[i]? = some p) (q : SparkD) :
    (w.setCell ⟨g, i * 5, none⟩ (.int .i64 q.1)).cell? ⟨g, i * 5 + 1, none⟩ = some (.int .i64 p.2.1) ∧
    ((w.setCell ⟨g, i * 5, none⟩ (.int .i64 q.1)).setCell ⟨g, i * 5 + 1, none⟩ (.int .i64 q.2.1)).cell? ⟨g, i * 5 + 2, none⟩ = some (.int .i64 p.2.2.1) ∧
    (((w.setCell ⟨g, i * 5, none⟩ (.int .i64 q.1)).setCell ⟨g, i * 5 + 1, none⟩ (.int .i64 q.2.1)).setCell ⟨g, i * 5 + 2, none⟩ (.int .i64 q.2.2.1)).cell? ⟨g, i * 5 + 3, none⟩ = some (.int .i64 p.2.2.2.1) ∧
    ((((w.setCell ⟨g, i * 5, none⟩ (.int .i64 q.1)).setCell ⟨g, i * 5 + 1, none⟩ (.int .i64 q.2.1)).setCell ⟨g, i * 5 + 2, none⟩ (.int .i64 q.2.2.1)).setCell ⟨g, i * 5 + 3, none⟩ (.int .i64 q.2.2.2.1)).cell? ⟨g, i * 5 + 4, none⟩ = some (.int .i64 p.2.2.2.2) ∧
    SparkO (((((w.setCell ⟨g, i * 5, none⟩ (.int .i64 q.1)).setCell ⟨g, i * 5 + 1, none⟩ (.int .i64 q.2.1)).setCell ⟨g, i * 5 + 2, none⟩ (.int .i64 q.2.2.1)).setCell ⟨g, i * 5 + 3, none⟩ (.int .i64 q.2.2.2.1)).setCell ⟨g, i * 5 + 4, none⟩ (.int .i64 q.2.2.2.2)) lo hi (.slice (some ⟨g, 0, none⟩) n cap) (ps.set i q) := by
  have hi' : i < ps.length := (List.getElem?_eq_some_iff.1 hp).1
  have h1 := h.set (by simpa using hn) hp 0 (by omega) (.int .i64 q.1) (q := (q.1, p.2)) rfl
  have g1 : (ps.set i (q.1, p.2))[i]? = some (q.1, p.2) := by simp [hi']
  have h2 := h1.set (by simpa using hn) g1 1 (by omega) (.int .i64 q.2.1) (q := (q.1, q.2.1, p.2.2)) rfl
  have g2 : ((ps.set i (q.1, p.2)).set i (q.1, q.2.1, p.2.2))[i]? = some (q.1, q.2.1, p.2.2) := by simp [hi']
  have h3 := h2.set (by simpa using hn) g2 2 (by omega) (.int .i64 q.2.2.1) (q := (q.1, q.2.1, q.2.2.1, p.2.2.2)) rfl
  have g3 : (((ps.set i (q.1, p.2)).set i (q.1, q.2.1, p.2.2)).set i (q.1, q.2.1, q.2.2.1, p.2.2.2))[i]? = some (q.1, q.2.1, q.2.2.1, p.2.2.2) := by simp [hi']
  have h4 := h3.set (by simpa using hn) g3 3 (by omega) (.int .i64 q.2.2.2.1) (q := (q.1, q.2.1, q.2.2.1, q.2.2.2.1, p.2.2.2.2)) rfl
  have g4 : ((((ps.set i (q.1, p.2)).set i (q.1, q.2.1, p.2.2)).set i (q.1, q.2.1, q.2.2.1, p.2.2.2)).set i (q.1, q.2.1, q.2.2.1, q.2.2.2.1, p.2.2.2.2))[i]? = some (q.1, q.2.1, q.2.2.1, q.2.2.2.1, p.2.2.2.2) := by simp [hi']
  have h5 := h4.set (by simpa using hn) g4 4 (by omega) (.int .i64 q.2.2.2.2) (q := q) rfl
  refine ⟨(h1.cells g1).2.1, (h2.cells g2).2.2.1, (h3.cells g3).2.2.2.1, (h4.cells g4).2.2.2.2.1, by simpa using h5⟩

end Go.Proofs.YtpeiblodefaajaaDoor
