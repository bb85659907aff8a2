/-
  Quads as plain data, and how lists of them lie in memory.
-/
import Derived.Test.YtnfkgnbhdhpnmaaBase
namespace Go.Proofs.Ytnfkgnbhdhpnmaa
open Go.ChangeShapes Go.WideShapes Go.ChangeAt Go.RowKit
abbrev QuadD := Int × Int × Int × Int × Int × Int × Int
def quadC (p : QuadD) : List Value := [.int .i64 p.1, .int .i64 p.2.1, .int .i64 p.2.2.1, .int .i64 p.2.2.2.1, .int .i64 p.2.2.2.2.1, .int .i64 p.2.2.2.2.2.1, .int .i64 p.2.2.2.2.2.2]
theorem quadC_len (p : QuadD) : (quadC p).length = 7 := rfl
def quad0 : QuadD := (0, 0, 0, 0, 0, 0, 0)
def QuadAt (w : World) (v : Value) (ps : List QuadD) : Prop := RowAt w v ps.length (ps.flatMap quadC)
def QuadO (w : World) (lo hi : Nat) (v : Value) (ps : List QuadD) : Prop := RowO w lo hi 33 7 v ps.length (ps.flatMap quadC)
theorem QuadAt.kept {w w' : World} {v : Value} {ps : List QuadD} (h : QuadAt w v ps) (k : Kept w w') : QuadAt w' v ps := RowAt.kept h k
theorem QuadO.kept {w w' : World} {lo hi : Nat} {v : Value} {ps : List QuadD} (h : QuadO w lo hi v ps) (k : Kept w w') : QuadO w' lo hi v ps := RowO.kept h k
theorem QuadO.but {w w' : World} {lo hi lo' hi' : Nat} {v : Value} {ps : List QuadD} (h : QuadO w lo hi v ps) (k : But lo' hi' w w') (ho : hi ≤ lo' ∨ hi' ≤ lo) : QuadO w' lo hi v ps := RowO.but h k ho
theorem QuadO.mono {w : World} {lo hi lo' hi' : Nat} {v : Value} {ps : List QuadD} (h : QuadO w lo hi v ps) (h1 : lo' ≤ lo) (h2 : hi ≤ hi') : QuadO w lo' hi' v ps := RowO.mono h h1 h2
theorem QuadO.low {w : World} {lo hi : Nat} {v : Value} {ps : List QuadD} (h : QuadO w lo hi v ps) : QuadO w lo w.heap.size v ps := RowO.low h
theorem QuadO.at {w : World} {lo hi : Nat} {v : Value} {ps : List QuadD} (h : QuadO w lo hi v ps) : QuadAt w v ps := own_row h.1
theorem QuadO.form {w : World} {lo hi : Nat} {v : Value} {ps : List QuadD} (h : QuadO w lo hi v ps) : ∃ ao cap, v = .slice ao ps.length cap := by
  obtain ⟨ao, cap, e, _⟩ := own_form h.1
  exact ⟨ao, cap, e⟩
theorem quad_get {w : World} {v : Value} {ps : List QuadD} (h : QuadAt w v ps) {i : Nat} {p : QuadD} (hp : ps[i]? = some p) :
    ∃ b o cap, v = .slice (some ⟨b, o, none⟩) ps.length cap ∧ w.cell? ⟨b, o + i * 7, none⟩ = some (.int .i64 p.1) ∧ w.cell? ⟨b, o + i * 7 + 1, none⟩ = some (.int .i64 p.2.1) ∧ w.cell? ⟨b, o + i * 7 + 2, none⟩ = some (.int .i64 p.2.2.1) ∧ w.cell? ⟨b, o + i * 7 + 3, none⟩ = some (.int .i64 p.2.2.2.1) ∧ w.cell? ⟨b, o + i * 7 + 4, none⟩ = some (.int .i64 p.2.2.2.2.1) ∧ w.cell? ⟨b, o + i * 7 + 5, none⟩ = some (.int .i64 p.2.2.2.2.2.1) ∧ w.cell? ⟨b, o + i * 7 + 6, none⟩ = some (.int .i64 p.2.2.2.2.2.2) := by
  obtain ⟨b, o, cap, e, hc⟩ := row_get 7 quadC quadC_len (by omega) h hp
  exact ⟨b, o, cap, e, hc 0 _ rfl, hc 1 _ rfl, hc 2 _ rfl, hc 3 _ rfl, hc 4 _ rfl, hc 5 _ rfl, hc 6 _ rfl⟩
theorem QuadO.cells {w : World} {lo hi g cap n : Nat} {ps : List QuadD} (h : QuadO w lo hi (.slice (some ⟨g, 0, none⟩) n cap) ps) {i : Nat} {p : QuadD} (hp : ps[i]? = some p) :
    w.cell? ⟨g, i * 7, none⟩ = some (.int .i64 p.1) ∧ w.cell? ⟨g, i * 7 + 1, none⟩ = some (.int .i64 p.2.1) ∧ w.cell? ⟨g, i * 7 + 2, none⟩ = some (.int .i64 p.2.2.1) ∧ w.cell? ⟨g, i * 7 + 3, none⟩ = some (.int .i64 p.2.2.2.1) ∧ w.cell? ⟨g, i * 7 + 4, none⟩ = some (.int .i64 p.2.2.2.2.1) ∧ w.cell? ⟨g, i * 7 + 5, none⟩ = some (.int .i64 p.2.2.2.2.2.1) ∧ w.cell? ⟨g, i * 7 + 6, none⟩ = some (.int .i64 p.2.2.2.2.2.2) ∧ ∀ o, w.frozen? ⟨g, o, none⟩ = false := by
  obtain ⟨hc, hf⟩ := own_get 7 quadC quadC_len (by omega) h hp
  exact ⟨hc 0 _ rfl, hc 1 _ rfl, hc 2 _ rfl, hc 3 _ rfl, hc 4 _ rfl, hc 5 _ rfl, hc 6 _ rfl, hf⟩
theorem QuadO.set {w : World} {lo hi g cap n : Nat} {ps : List QuadD} (h : QuadO w lo hi (.slice (some ⟨g, 0, none⟩) n cap) ps) (hn : n = ps.length) {i : Nat} {p q : QuadD} (hp : ps[i]? = some p) (j : Nat) (hj : j < 7) (u : Value) (hu : (quadC p).set j u = quadC q) :
    QuadO (w.setCell ⟨g, i * 7 + j, none⟩ u) lo hi (.slice (some ⟨g, 0, none⟩) n cap) (ps.set i q) := by
  subst hn
  have := RowO.set h (i * 7 + j) u
  unfold QuadO
  rw [List.length_set]
  rw [Nat.mul_comm i 7] at this ⊢
  rw [flat_set 7 quadC quadC_len ps i j p q u hp hj hu] at this
  exact this
/-- An element of a row's own set anew, field by field. -/
theorem QuadO.store {w : World} {lo hi g cap n : Nat} {ps : List QuadD} (h : QuadO w lo hi (.slice (some ⟨g, 0, none⟩) n cap) ps) (hn : n = ps.length) {i : Nat} {p : QuadD} (hp : ps[i]? = some p) (q : QuadD) :
    (w.setCell ⟨g, i * 7, none⟩ (.int .i64 q.1)).cell? ⟨g, i * 7 + 1, none⟩ = some (.int .i64 p.2.1) ∧
    ((w.setCell ⟨g, i * 7, none⟩ (.int .i64 q.1)).setCell ⟨g, i * 7 + 1, none⟩ (.int .i64 q.2.1)).cell? ⟨g, i * 7 + 2, none⟩ = some (.int .i64 p.2.2.1) ∧
    (((w.setCell ⟨g, i * 7, none⟩ (.int .i64 q.1)).setCell ⟨g, i * 7 + 1, none⟩ (.int .i64 q.2.1)).setCell ⟨g, i * 7 + 2, none⟩ (.int .i64 q.2.2.1)).cell? ⟨g, i * 7 + 3, none⟩ = some (.int .i64 p.2.2.2.1) ∧
    ((((w.setCell ⟨g, i * 7, none⟩ (.int .i64 q.1)).setCell ⟨g, i * 7 + 1, none⟩ (.int .i64 q.2.1)).setCell ⟨g, i * 7 + 2, none⟩ (.int .i64 q.2.2.1)).setCell ⟨g, i * 7 + 3, none⟩ (.int .i64 q.2.2.2.1)).cell? ⟨g, i * 7 + 4, none⟩ = some (.int .i64 p.2.2.2.2.1) ∧
    (((((w.setCell ⟨g, i * 7, none⟩ (.int .i64 q.1)).setCell ⟨g, i * 7 + 1, none⟩ (.int .i64 q.2.1)).setCell ⟨g, i * 7 + 2, none⟩ (.int .i64 q.2.2.1)).setCell ⟨g, i * 7 + 3, none⟩ (.int .i64 q.2.2.2.1)).setCell ⟨g, i * 7 + 4, none⟩ (.int .i64 q.2.2.2.2.1)).cell? ⟨g, i * 7 + 5, none⟩ = some (.int .i64 p.2.2.2.2.2.1) ∧
    ((((((w.setCell ⟨g, i * 7, none⟩ (.int .i64 q.1)).setCell ⟨g, i * 7 + 1, none⟩ (.int .i64 q.2.1)).setCell ⟨g, i * 7 + 2, none⟩ (.int .i64 q.2.2.1)).setCell ⟨g, i * 7 + 3, none⟩ (.int .i64 q.2.2.2.1)).setCell ⟨g, i * 7 + 4, none⟩ (.int .i64 q.2.2.2.2.1)).setCell ⟨g, i * 7 + 5, none⟩ (.int .i64 q.2.2.2.2.2.1)).cell? ⟨g, i * 7 + 6, none⟩ = some (.int .i64 p.2.2.2.2.2.2) ∧
    QuadO (((((((w.setCell ⟨g, i * 7, none⟩ (.int .i64 q.1)).setCell ⟨g, i * 7 + 1, none⟩ (.int .i64 q.2.1)).setCell ⟨g, i * 7 + 2, none⟩ (.int .i64 q.2.2.1)).setCell ⟨g, i * 7 + 3, none⟩ (.int .i64 q.2.2.2.1)).setCell ⟨g, i * 7 + 4, none⟩ (.int .i64 q.2.2.2.2.1)).setCell ⟨g, i * 7 + 5, none⟩ (.int .i64 q.2.2.2.2.2.1)).setCell ⟨g, i * 7 + 6, none⟩ (.int .i64 q.2.2.2.2.2.2)) lo hi (.slice (some ⟨g, 0, none⟩) n cap) (ps.set i q) := by
  have hi' : i < ps.length := (List.getElem?_eq_some_iff.1 hp).1
  have h1 := h.set (by simpa using hn) hp 0 (by omega) (.int .i64 q.1) (q := (q.1, p.2)) rfl
  have g1 : (ps.set i (q.1, p.2))[i]? = some (q.1, p.2) := by simp [hi']
  have h2 := h1.set (by simpa using hn) g1 1 (by omega) (.int .i64 q.2.1) (q := (q.1, q.2.1, p.2.2)) rfl
  have g2 : ((ps.set i (q.1, p.2)).set i (q.1, q.2.1, p.2.2))[i]? = some (q.1, q.2.1, p.2.2) := by simp [hi']
  have h3 := h2.set (by simpa using hn) g2 2 (by omega) (.int .i64 q.2.2.1) (q := (q.1, q.2.1, q.2.2.1, p.2.2.2)) rfl
  have g3 : (((ps.set i (q.1, p.2)).set i (q.1, q.2.1, p.2.2)).set i (q.1, q.2.1, q.2.2.1, p.2.2.2))[i]? = some (q.1, q.2.1, q.2.2.1, p.2.2.2) := by simp [hi']
  have h4 := h3.set (by simpa using hn) g3 3 (by omega) (.int .i64 q.2.2.2.1) (q := (q.1, q.2.1, q.2.2.1, q.2.2.2.1, p.2.2.2.2)) rfl
  have g4 : ((((ps.set i (q.1, p.2)).set i (q.1, q.2.1, p.2.2)).set i (q.1, q.2.1, q.2.2.1, p.2.2.2)).set i (q.1, q.2.1, q.2.2.1, q.2.2.2.1, p.2.2.2.2))[i]? = some (q.1, q.2.1, q.2.2.1, q.2.2.2.1, p.2.2.2.2) := by simp [hi']
  have h5 := h4.set (by simpa using hn) g4 4 (by omega) (.int .i64 q.2.2.2.2.1) (q := (q.1, q.2.1, q.2.2.1, q.2.2.2.1, q.2.2.2.2.1, p.2.2.2.2.2)) rfl
  have g5 : (((((ps.set i (q.1, p.2)).set i (q.1, q.2.1, p.2.2)).set i (q.1, q.2.1, q.2.2.1, p.2.2.2)).set i (q.1, q.2.1, q.2.2.1, q.2.2.2.1, p.2.2.2.2)).set i (q.1, q.2.1, q.2.2.1, q.2.2.2.1, q.2.2.2.2.1, p.2.2.2.2.2))[i]? = some (q.1, q.2.1, q.2.2.1, q.2.2.2.1, q.2.2.2.2.1, p.2.2.2.2.2) := by simp [hi']
  have h6 := h5.set (by simpa using hn) g5 5 (by omega) (.int .i64 q.2.2.2.2.2.1) (q := (q.1, q.2.1, q.2.2.1, q.2.2.2.1, q.2.2.2.2.1, q.2.2.2.2.2.1, p.2.2.2.2.2.2)) rfl
  have g6 : ((((((ps.set i (q.1, p.2)).set i (q.1, q.2.1, p.2.2)).set i (q.1, q.2.1, q.2.2.1, p.2.2.2)).set i (q.1, q.2.1, q.2.2.1, q.2.2.2.1, p.2.2.2.2)).set i (q.1, q.2.1, q.2.2.1, q.2.2.2.1, q.2.2.2.2.1, p.2.2.2.2.2)).set i (q.1, q.2.1, q.2.2.1, q.2.2.2.1, q.2.2.2.2.1, q.2.2.2.2.2.1, p.2.2.2.2.2.2))[i]? = some (q.1, q.2.1, q.2.2.1, q.2.2.2.1, q.2.2.2.2.1, q.2.2.2.2.2.1, p.2.2.2.2.2.2) := by simp [hi']
  have h7 := h6.set (by simpa using hn) g6 6 (by omega) (.int .i64 q.2.2.2.2.2.2) (q := q) rfl
  refine ⟨(h1.cells g1).2.1, (h2.cells g2).2.2.1, (h3.cells g3).2.2.2.1, (h4.cells g4).2.2.2.2.1, (h5.cells g5).2.2.2.2.2.1, (h6.cells g6).2.2.2.2.2.2.1, by simpa using h7⟩

end Go.Proofs.Ytnfkgnbhdhpnmaa
