/-
  Actions as plain data, and how lists of them lie in memory.
-/
import Derived.Test.YtjpceimaggcncaaBase
namespace Go.Proofs.Ytjpceimaggcncaa
open Go.ChangeShapes Go.WideShapes Go.ChangeAt Go.RowKit
abbrev ActionD := ByteArray × Int × Int × Int × Int × Int
def actionC (p : ActionD) : List Value := [.string p.1, .int .i64 p.2.1, .int .i64 p.2.2.1, .int .i64 p.2.2.2.1, .int .i64 p.2.2.2.2.1, .int .i64 p.2.2.2.2.2]
theorem actionC_len (p : ActionD) : (actionC p).length = 6 := rfl
def action0 : ActionD := (ByteArray.empty, 0, 0, 0, 0, 0)
def ActionAt (w : World) (v : Value) (ps : List ActionD) : Prop := RowAt w v ps.length (ps.flatMap actionC)
def ActionO (w : World) (lo hi : Nat) (v : Value) (ps : List ActionD) : Prop := RowO w lo hi 31 6 v ps.length (ps.flatMap actionC)
theorem ActionAt.kept {w w' : World} {v : Value} {ps : List ActionD} (h : ActionAt w v ps) (k : Kept w w') : ActionAt w' v ps := RowAt.kept h k
theorem ActionO.kept {w w' : World} {lo hi : Nat} {v : Value} {ps : List ActionD} (h : ActionO w lo hi v ps) (k : Kept w w') : ActionO w' lo hi v ps := RowO.kept h k
theorem ActionO.but {w w' : World} {lo hi lo' hi' : Nat} {v : Value} {ps : List ActionD} (h : ActionO w lo hi v ps) (k : But lo' hi' w w') (ho : hi ≤ lo' ∨ hi' ≤ lo) : ActionO w' lo hi v ps := RowO.but h k ho
theorem ActionO.mono {w : World} {lo hi lo' hi' : Nat} {v : Value} {ps : List ActionD} (h : ActionO w lo hi v ps) (h1 : lo' ≤ lo) (h2 : hi ≤ hi') : ActionO w lo' hi' v ps := RowO.mono h h1 h2
theorem ActionO.low {w : World} {lo hi : Nat} {v : Value} {ps : List ActionD} (h : ActionO w lo hi v ps) : ActionO w lo w.heap.size v ps := RowO.low h
theorem ActionO.at {w : World} {lo hi : Nat} {v : Value} {ps : List ActionD} (h : ActionO w lo hi v ps) : ActionAt w v ps := own_row h.1
theorem ActionO.form {w : World} {lo hi : Nat} {v : Value} {ps : List ActionD} (h : ActionO w lo hi v ps) : ∃ ao cap, v = .slice ao ps.length cap := by
  obtain ⟨ao, cap, e, _⟩ := own_form h.1
  exact ⟨ao, cap, e⟩
theorem action_get {w : World} {v : Value} {ps : List ActionD} (h : ActionAt w v ps) {i : Nat} {p : ActionD} (hp : ps[i]? = some p) :
    ∃ b o cap, v = .slice (some ⟨b, o, none⟩) ps.length cap ∧ w.cell? ⟨b, o + i * 6, none⟩ = some (.string p.1) ∧ w.cell? ⟨b, o + i * 6 + 1, none⟩ = some (.int .i64 p.2.1) ∧ w.cell? ⟨b, o + i * 6 + 2, none⟩ = some (.int .i64 p.2.2.1) ∧ w.cell? ⟨b, o + i * 6 + 3, none⟩ = some (.int .i64 p.2.2.2.1) ∧ w.cell? ⟨b, o + i * 6 + 4, none⟩ = some (.int .i64 p.2.2.2.2.1) ∧ w.cell? ⟨b, o + i * 6 + 5, none⟩ = some (.int .i64 p.2.2.2.2.2) := by
  obtain ⟨b, o, cap, e, hc⟩ := row_get 6 actionC actionC_len (by omega) h hp
  exact ⟨b, o, cap, e, hc 0 _ rfl, hc 1 _ rfl, hc 2 _ rfl, hc 3 _ rfl, hc 4 _ rfl, hc 5 _ rfl⟩
theorem ActionO.cells {w : World} {lo hi g cap n : Nat} {ps : List ActionD} (h : ActionO w lo hi (.slice (some ⟨g, 0, none⟩) n cap) ps) {i : Nat} {p : ActionD} (hp : ps[i]? = some p) :
    w.cell? ⟨g, i * 6, none⟩ = some (.string p.1) ∧ w.cell? ⟨g, i * 6 + 1, none⟩ = some (.int .i64 p.2.1) ∧ w.cell? ⟨g, i * 6 + 2, none⟩ = some (.int .i64 p.2.2.1) ∧ w.cell? ⟨g, i * 6 + 3, none⟩ = some (.int .i64 p.2.2.2.1) ∧ w.cell? ⟨g, i * 6 + 4, none⟩ = some (.int .i64 p.2.2.2.2.1) ∧ w.cell? ⟨g, i * 6 + 5, none⟩ = some (.int .i64 p.2.2.2.2.2) ∧ ∀ o, w.frozen? ⟨g, o, none⟩ = false := by
  obtain ⟨hc, hf⟩ := own_get 6 actionC actionC_len (by omega) h hp
  exact ⟨hc 0 _ rfl, hc 1 _ rfl, hc 2 _ rfl, hc 3 _ rfl, hc 4 _ rfl, hc 5 _ rfl, hf⟩
theorem ActionO.set {w : World} {lo hi g cap n : Nat} {ps : List ActionD} (h : ActionO w lo hi (.slice (some ⟨g, 0, none⟩) n cap) ps) (hn : n = ps.length) {i : Nat} {p q : ActionD} (hp : ps[i]? = some p) (j : Nat) (hj : j < 6) (u : Value) (hu : (actionC p).set j u = actionC q) :
    ActionO (w.setCell ⟨g, i * 6 + j, none⟩ u) lo hi (.slice (some ⟨g, 0, none⟩) n cap) (ps.set i q) := by
  subst hn
  have := RowO.set h (i * 6 + j) u
  unfold ActionO
  rw [List.length_set]
  rw [Nat.mul_comm i 6] at this ⊢
  rw [flat_set 6 actionC actionC_len ps i j p q u hp hj hu] at this
  exact this
/-- An element of a row's own set anew, field by field. -/
theorem ActionO.store {w : World} {lo hi g cap n : Nat} {ps : List ActionD} (h : ActionO w lo hi (.slice (some ⟨g, 0, none⟩) n cap) ps) (hn : n = ps.length) {i : Nat} {p : ActionD} (hp : ps[i]? = some p) (q : ActionD) :
    (w.setCell ⟨g, i * 6, none⟩ (.string q.1)).cell? ⟨g, i * 6 + 1, none⟩ = some (.int .i64 p.2.1) ∧
    ((w.setCell ⟨g, i * 6, none⟩ (.string q.1)).setCell ⟨g, i * 6 + 1, none⟩ (.int .i64 q.2.1)).cell? ⟨g, i * 6 + 2, none⟩ = some (.int .i64 p.2.2.1) ∧
    (((w.setCell ⟨g, i * 6, none⟩ (.string q.1)).setCell ⟨g, i * 6 + 1, none⟩ (.int .i64 q.2.1)).setCell ⟨g, i * 6 + 2, none⟩ (.int .i64 q.2.2.1)).cell? ⟨g, i * 6 + 3, none⟩ = some (.int .i64 p.2.2.2.1) ∧
    ((((w.setCell ⟨g, i * 6, none⟩ (.string q.1)).setCell ⟨g, i * 6 + 1, none⟩ (.int .i64 q.2.1)).setCell ⟨g, i * 6 + 2, none⟩ (.int .i64 q.2.2.1)).setCell ⟨g, i * 6 + 3, none⟩ (.int .i64 q.2.2.2.1)).cell? ⟨g, i * 6 + 4, none⟩ = some (.int .i64 p.2.2.2.2.1) ∧
    (((((w.setCell ⟨g, i * 6, none⟩ (.string q.1)).setCell ⟨g, i * 6 + 1, none⟩ (.int .i64 q.2.1)).setCell ⟨g, i * 6 + 2, none⟩ (.int .i64 q.2.2.1)).setCell ⟨g, i * 6 + 3, none⟩ (.int .i64 q.2.2.2.1)).setCell ⟨g, i * 6 + 4, none⟩ (.int .i64 q.2.2.2.2.1)).cell? ⟨g, i * 6 + 5, none⟩ = some (.int .i64 p.2.2.2.2.2) ∧
    ActionO ((((((w.setCell ⟨g, i * 6, none⟩ (.string q.1)).setCell ⟨g, i * 6 + 1, none⟩ (.int .i64 q.2.1)).setCell ⟨g, i * 6 + 2, none⟩ (.int .i64 q.2.2.1)).setCell ⟨g, i * 6 + 3, none⟩ (.int .i64 q.2.2.2.1)).setCell ⟨g, i * 6 + 4, none⟩ (.int .i64 q.2.2.2.2.1)).setCell ⟨g, i * 6 + 5, none⟩ (.int .i64 q.2.2.2.2.2)) lo hi (.slice (some ⟨g, 0, none⟩) n cap) (ps.set i q) := by
  have hi' : i < ps.length := (List.getElem?_eq_some_iff.1 hp).1
  have h1 := h.set (by simpa using hn) hp 0 (by omega) (.string q.1) (q := (q.1, p.2)) rfl
  have g1 : (ps.set i (q.1, p.2))[i]? = some (q.1, p.2) := by simp [hi']
  have h2 := h1.set (by simpa using hn) g1 1 (by omega) (.int .i64 q.2.1) (q := (q.1, q.2.1, p.2.2)) rfl
  have g2 : ((ps.set i (q.1, p.2)).set i (q.1, q.2.1, p.2.2))[i]? = some (q.1, q.2.1, p.2.2) := by simp [hi']
  have h3 := h2.set (by simpa using hn) g2 2 (by omega) (.int .i64 q.2.2.1) (q := (q.1, q.2.1, q.2.2.1, p.2.2.2)) rfl
  have g3 : (((ps.set i (q.1, p.2)).set i (q.1, q.2.1, p.2.2)).set i (q.1, q.2.1, q.2.2.1, p.2.2.2))[i]? = some (q.1, q.2.1, q.2.2.1, p.2.2.2) := by simp [hi']
  have h4 := h3.set (by simpa using hn) g3 3 (by omega) (.int .i64 q.2.2.2.1) (q := (q.1, q.2.1, q.2.2.1, q.2.2.2.1, p.2.2.2.2)) rfl
  have g4 : ((((ps.set i (q.1, p.2)).set i (q.1, q.2.1, p.2.2)).set i (q.1, q.2.1, q.2.2.1, p.2.2.2)).set i (q.1, q.2.1, q.2.2.1, q.2.2.2.1, p.2.2.2.2))[i]? = some (q.1, q.2.1, q.2.2.1, q.2.2.2.1, p.2.2.2.2) := by simp [hi']
  have h5 := h4.set (by simpa using hn) g4 4 (by omega) (.int .i64 q.2.2.2.2.1) (q := (q.1, q.2.1, q.2.2.1, q.2.2.2.1, q.2.2.2.2.1, p.2.2.2.2.2)) rfl
  have g5 : (((((ps.set i (q.1, p.2)).set i (q.1, q.2.1, p.2.2)).set i (q.1, q.2.1, q.2.2.1, p.2.2.2)).set i (q.1, q.2.1, q.2.2.1, q.2.2.2.1, p.2.2.2.2)).set i (q.1, q.2.1, q.2.2.1, q.2.2.2.1, q.2.2.2.2.1, p.2.2.2.2.2))[i]? = some (q.1, q.2.1, q.2.2.1, q.2.2.2.1, q.2.2.2.2.1, p.2.2.2.2.2) := by simp [hi']
  have h6 := h5.set (by simpa using hn) g5 5 (by omega) (.int .i64 q.2.2.2.2.2) (q := q) rfl
  refine ⟨(h1.cells g1).2.1, (h2.cells g2).2.2.1, (h3.cells g3).2.2.2.1, (h4.cells g4).2.2.2.2.1, (h5.cells g5).2.2.2.2.2.1, by simpa using h6⟩

end Go.Proofs.Ytjpceimaggcncaa
