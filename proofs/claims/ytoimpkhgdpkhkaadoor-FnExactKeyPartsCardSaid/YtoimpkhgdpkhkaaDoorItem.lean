/-
  Items: as plain data, and how lists of them lie in memory.
-/
import Derived.Test.YtoimpkhgdpkhkaaDoorRows
import Derived.Test.YtoimpkhgdpkhkaaDoorBase
namespace Go.Proofs.YtoimpkhgdpkhkaaDoor
open Go.ChangeShapes Go.WideShapes Go.ChangeAt Go.RowKit
abbrev ItemD := Int × Int × Int × Int × Bool × Int × Int × Int × Int
def itemC (p : ItemD) : List Value := [.int .i64 p.1, .int .i64 p.2.1, .int .i64 p.2.2.1, .int .i64 p.2.2.2.1, .bool p.2.2.2.2.1, .int .i64 p.2.2.2.2.2.1, .int .i64 p.2.2.2.2.2.2.1, .int .i64 p.2.2.2.2.2.2.2.1, .int .i64 p.2.2.2.2.2.2.2.2]
theorem itemC_len (p : ItemD) : (itemC p).length = 9 := rfl
def item0 : ItemD := (0, 0, 0, 0, false, 0, 0, 0, 0)
def ItemAt (w : World) (v : Value) (ps : List ItemD) : Prop := RowAt w v ps.length (ps.flatMap itemC)
def ItemO (w : World) (lo hi : Nat) (v : Value) (ps : List ItemD) : Prop := RowO w lo hi 26 9 v ps.length (ps.flatMap itemC)
theorem ItemAt.kept {w w' : World} {v : Value} {ps : List ItemD} (h : ItemAt w v ps) (k : Kept w w') : ItemAt w' v ps := RowAt.kept h k
theorem ItemO.kept {w w' : World} {lo hi : Nat} {v : Value} {ps : List ItemD} (h : ItemO w lo hi v ps) (k : Kept w w') : ItemO w' lo hi v ps := RowO.kept h k
theorem ItemO.but {w w' : World} {lo hi lo' hi' : Nat} {v : Value} {ps : List ItemD} (h : ItemO w lo hi v ps) (k : But lo' hi' w w') (ho : hi ≤ lo' ∨ hi' ≤ lo) : ItemO w' lo hi v ps := RowO.but h k ho
theorem ItemO.mono {w : World} {lo hi lo' hi' : Nat} {v : Value} {ps : List ItemD} (h : ItemO w lo hi v ps) (h1 : lo' ≤ lo) (h2 : hi ≤ hi') : ItemO w lo' hi' v ps := RowO.mono h h1 h2
theorem ItemO.low {w : World} {lo hi : Nat} {v : Value} {ps : List ItemD} (h : ItemO w lo hi v ps) : ItemO w lo w.heap.size v ps := RowO.low h
theorem ItemO.at {w : World} {lo hi : Nat} {v : Value} {ps : List ItemD} (h : ItemO w lo hi v ps) : ItemAt w v ps := own_row h.1
theorem ItemO.form {w : World} {lo hi : Nat} {v : Value} {ps : List ItemD} (h : ItemO w lo hi v ps) : ∃ ao cap, v = .slice ao ps.length cap := by
  obtain ⟨ao, cap, e, _⟩ := own_form h.1
  exact ⟨ao, cap, e⟩
theorem item_get {w : World} {v : Value} {ps : List ItemD} (h : ItemAt w v ps) {i : Nat} {p : ItemD} (hp : ps[i]? = some p) :
    ∃ b o cap, v = .slice (some ⟨b, o, none⟩) ps.length cap ∧ w.cell? ⟨b, o + i * 9, none⟩ = some (.int .i64 p.1) ∧ w.cell? ⟨b, o + i * 9 + 1, none⟩ = some (.int .i64 p.2.1) ∧ w.cell? ⟨b, o + i * 9 + 2, none⟩ = some (.int .i64 p.2.2.1) ∧ w.cell? ⟨b, o + i * 9 + 3, none⟩ = some (.int .i64 p.2.2.2.1) ∧ w.cell? ⟨b, o + i * 9 + 4, none⟩ = some (.bool p.2.2.2.2.1) ∧ w.cell? ⟨b, o + i * 9 + 5, none⟩ = some (.int .i64 p.2.2.2.2.2.1) ∧ w.cell? ⟨b, o + i * 9 + 6, none⟩ = some (.int .i64 p.2.2.2.2.2.2.1) ∧ w.cell? ⟨b, o + i * 9 + 7, none⟩ = some (.int .i64 p.2.2.2.2.2.2.2.1) ∧ w.cell? ⟨b, o + i * 9 + 8, none⟩ = some (.int .i64 p.2.2.2.2.2.2.2.2) := by
  obtain ⟨b, o, cap, e, hc⟩ := row_get 9 itemC itemC_len (by omega) h hp
  exact ⟨b, o, cap, e, hc 0 _ rfl, hc 1 _ rfl, hc 2 _ rfl, hc 3 _ rfl, hc 4 _ rfl, hc 5 _ rfl, hc 6 _ rfl, hc 7 _ rfl, hc 8 _ rfl⟩
theorem ItemO.cells {w : World} {lo hi g cap n : Nat} {ps : List ItemD} (h : ItemO w lo hi (.slice (some ⟨g, 0, none⟩) n cap) ps) {i : Nat} {p : ItemD} (hp : ps[i]? = some p) :
    w.cell? ⟨g, i * 9, none⟩ = some (.int .i64 p.1) ∧ w.cell? ⟨g, i * 9 + 1, none⟩ = some (.int .i64 p.2.1) ∧ w.cell? ⟨g, i * 9 + 2, none⟩ = some (.int .i64 p.2.2.1) ∧ w.cell? ⟨g, i * 9 + 3, none⟩ = some (.int .i64 p.2.2.2.1) ∧ w.cell? ⟨g, i * 9 + 4, none⟩ = some (.bool p.2.2.2.2.1) ∧ w.cell? ⟨g, i * 9 + 5, none⟩ = some (.int .i64 p.2.2.2.2.2.1) ∧ w.cell? ⟨g, i * 9 + 6, none⟩ = some (.int .i64 p.2.2.2.2.2.2.1) ∧ w.cell? ⟨g, i * 9 + 7, none⟩ = some (.int .i64 p.2.2.2.2.2.2.2.1) ∧ w.cell? ⟨g, i * 9 + 8, none⟩ = some (.int .i64 p.2.2.2.2.2.2.2.2) ∧ ∀ o, w.frozen? ⟨g, o, none⟩ = false := by
  obtain ⟨hc, hf⟩ := own_get 9 itemC itemC_len (by omega) h hp
  exact ⟨hc 0 _ rfl, hc 1 _ rfl, hc 2 _ rfl, hc 3 _ rfl, hc 4 _ rfl, hc 5 _ rfl, hc 6 _ rfl, hc 7 _ rfl, hc 8 _ rfl, hf⟩
theorem ItemO.set {w : World} {lo hi g cap n : Nat} {ps : List ItemD} (h : ItemO w lo hi (.slice (some ⟨g, 0, none⟩) n cap) ps) (hn : n = ps.length) {i : Nat} {p q : ItemD} (hp : ps[i]? = some p) (j : Nat) (hj : j < 9) (u : Value) (hu : (itemC p).set j u = itemC q) :
    ItemO (w.setCell ⟨g, i * 9 + j, none⟩ u) lo hi (.slice (some ⟨g, 0, none⟩) n cap) (ps.set i q) := by
  subst hn
  have := RowO.set h (i * 9 + j) u
  unfold ItemO
  rw [List.length_set]
  rw [Nat.mul_comm i 9] at this ⊢
  rw [flat_set 9 itemC itemC_len ps i j p q u hp hj hu] at this
  exact this
/-- An element of a row's own set anew, field by field. -/
theorem ItemO.store {w : World} {lo hi g cap n : Nat} {ps : List ItemD} (h : ItemO w lo hi (.slice (some ⟨g, 0, none⟩) n cap) ps) (hn : n = ps.length) {i : Nat} {p : ItemD} (hp : ps[i]? = some p) (q : ItemD) :
    (w.setCell ⟨g, i * 9, none⟩ (.int .i64 q.1)).cell? ⟨g, i * 9 + 1, none⟩ = some (.int .i64 p.2.1) ∧
    ((w.setCell ⟨g, i * 9, none⟩ (.int .i64 q.1)).setCell ⟨g, i * 9 + 1, none⟩ (.int .i64 q.2.1)).cell? ⟨g, i * 9 + 2, none⟩ = some (.int .i64 p.2.2.1) ∧
    (((w.setCell ⟨g, i * 9, none⟩ (.int .i64 q.1)).setCell ⟨g, i * 9 + 1, none⟩ (.int .i64 q.2.1)).setCell ⟨g, i * 9 + 2, none⟩ (.int .i64 q.2.2.1)).cell? ⟨g, i * 9 + 3, none⟩ = some (.int .i64 p.2.2.2.1) ∧
    ((((w.setCell ⟨g, i * 9, none⟩ (.int .i64 q.1)).setCell ⟨g, i * 9 + 1, none⟩ (.int .i64 q.2.1)).setCell ⟨g, i * 9 + 2, none⟩ (.int .i64 q.2.2.1)).setCell ⟨g, i * 9 + 3, none⟩ (.int .i64 q.2.2.2.1)).cell? ⟨g, i * 9 + 4, none⟩ = some (.bool p.2.2.2.2.1) ∧
    (((((w.setCell ⟨g, i * 9, none⟩ (.int .i64 q.1)).setCell ⟨g, i * 9 + 1, none⟩ (.int .i64 q.2.1)).setCell ⟨g, i * 9 + 2, none⟩ (.int .i64 q.2.2.1)).setCell ⟨g, i * 9 + 3, none⟩ (.int .i64 q.2.2.2.1)).setCell ⟨g, i * 9 + 4, none⟩ (.bool q.2.2.2.2.1)).cell? ⟨g, i * 9 + 5, none⟩ = some (.int .i64 p.2.2.2.2.2.1) ∧
    ((((((w.setCell ⟨g, i * 9, none⟩ (.int .i64 q.1)).setCell ⟨g, i * 9 + 1, none⟩ (.int .i64 q.2.1)).setCell ⟨g, i * 9 + 2, none⟩ (.int .i64 q.2.2.1)).setCell ⟨g, i * 9 + 3, none⟩ (.int .i64 q.2.2.2.1)).setCell ⟨g, i * 9 + 4, none⟩ (.bool q.2.2.2.2.1)).setCell ⟨g, i * 9 + 5, none⟩ (.int .i64 q.2.2.2.2.2.1)).cell? ⟨g, i * 9 + 6, none⟩ = some (.int .i64 p.2.2.2.2.2.2.1) ∧
    (((((((w.setCell ⟨g, i * 9, none⟩ (.int .i64 q.1)).setCell ⟨g, i * 9 + 1, none⟩ (.int .i64 q.2.1)).setCell ⟨g, i * 9 + 2, none⟩ (.int .i64 q.2.2.1)).setCell ⟨g, i * 9 + 3, none⟩ (.int .i64 q.2.2.2.1)).setCell ⟨g, i * 9 + 4, none⟩ (.bool q.2.2.2.2.1)).setCell ⟨g, i * 9 + 5, none⟩ (.int .i64 q.2.2.2.2.2.1)).setCell ⟨g, i * 9 + 6, none⟩ (.int .i64 q.2.2.2.2.2.2.1)).cell? ⟨g, i * 9 + 7, none⟩ = some (.int .i64 p.2.2.2.2.2.2.2.1) ∧
    ((((((((w.setCell ⟨g, i * 9, none⟩ (.int .i64 q.1)).setCell ⟨g, i * 9 + 1, none⟩ (.int .i64 q.2.1)).setCell ⟨g, i * 9 + 2, none⟩ (.int .i64 q.2.2.1)).setCell ⟨g, i * 9 + 3, none⟩ (.int .i64 q.2.2.2.1)).setCell ⟨g, i * 9 + 4, none⟩ (.bool q.2.2.2.2.1)).setCell ⟨g, i * 9 + 5, none⟩ (.int .i64 q.2.2.2.2.2.1)).setCell ⟨g, i * 9 + 6, none⟩ (.int .i64 q.2.2.2.2.2.2.1)).setCell ⟨g, i * 9 + 7, none⟩ (.int .i64 q.2.2.2.2.2.2.2.1)).cell? ⟨g, i * 9 + 8, none⟩ = some (.int .i64 p.2.2.2.2.2.2.2.2) ∧
    ItemO (((((((((w.setCell ⟨g, i * 9, none⟩ (.int .i64 q.1)).setCell ⟨g, i * 9 + 1, none⟩ (.int .i64 q.2.1)).setCell ⟨g, i * 9 + 2, none⟩ (.int .i64 q.2.2.1)).setCell ⟨g, i * 9 + 3, none⟩ (.int .i64 q.2.2.2.1)).setCell ⟨g, i * 9 + 4, none⟩ (.bool q.2.2.2.2.1)).setCell ⟨g, i * 9 + 5, none⟩ (.int .i64 q.2.2.2.2.2.1)).setCell ⟨g, i * 9 + 6, none⟩ (.int .i64 q.2.2.2.2.2.2.1)).setCell ⟨g, i * 9 + 7, none⟩ (.int .i64 q.2.2.2.2.2.2.2.1)).setCell ⟨g, i * 9 + 8, none⟩ (.int .i64 q.2.2.2.2.2.2.2.2)) lo hi (.slice (some ⟨g, 0, none⟩) n cap) (ps.set i q) := by
  have hi' : i < ps.length := (List.getElem?_eq_some_iff.1 hp).1
  have h1 := h.set (by simpa using hn) hp 0 (by omega) (.int .i64 q.1) (q := (q.1, p.2)) rfl
  have g1 : (ps.set i (q.1, p.2))[i]? = some (q.1, p.2) := by simp [hi']
  have h2 := h1.set (by simpa using hn) g1 1 (by omega) (.int .i64 q.2.1) (q := (q.1, q.2.1, p.2.2)) rfl
  have g2 : ((ps.set i (q.1, p.2)).set i (q.1, q.2.1, p.2.2))[i]? = some (q.1, q.2.1, p.2.2) := by simp [hi']
  have h3 := h2.set (by simpa using hn) g2 2 (by omega) (.int .i64 q.2.2.1) (q := (q.1, q.2.1, q.2.2.1, p.2.2.2)) rfl
  have g3 : (((ps.set i (q.1, p.2)).set i (q.1, q.2.1, p.2.2)).set i (q.1, q.2.1, q.2.2.1, p.2.2.2))[i]? = some (q.1, q.2.1, q.2.2.1, p.2.2.2) := by simp [hi']
  have h4 := h3.set (by simpa using hn) g3 3 (by omega) (.int .i64 q.2.2.2.1) (q := (q.1, q.2.1, q.2.2.1, q.2.2.2.1, p.2.2.2.2)) rfl
  have g4 : ((((ps.set i (q.1, p.2)).set i (q.1, q.2.1, p.2.2)).set i (q.1, q.2.1, q.2.2.1, p.2.2.2)).set i (q.1, q.2.1, q.2.2.1, q.2.2.2.1, p.2.2.2.2))[i]? = some (q.1, q.2.1, q.2.2.1, q.2.2.2.1, p.2.2.2.2) := by simp [hi']
  have h5 := h4.set (by simpa using hn) g4 4 (by omega) (.bool q.2.2.2.2.1) (q := (q.1, q.2.1, q.2.2.1, q.2.2.2.1, q.2.2.2.2.1, p.2.2.2.2.2)) rfl
  have g5 : (((((ps.set i (q.1, p.2)).set i (q.1, q.2.1, p.2.2)).set i (q.1, q.2.1, q.2.2.1, p.2.2.2)).set i (q.1, q.2.1, q.2.2.1, q.2.2.2.1, p.2.2.2.2)).set i (q.1, q.2.1, q.2.2.1, q.2.2.2.1, q.2.2.2.2.1, p.2.2.2.2.2))[i]? = some (q.1, q.2.1, q.2.2.1, q.2.2.2.1, q.2.2.2.2.1, p.2.2.2.2.2) := by simp [hi']
  have h6 := h5.set (by simpa using hn) g5 5 (by omega) (.int .i64 q.2.2.2.2.2.1) (q := (q.1, q.2.1, q.2.2.1, q.2.2.2.1, q.2.2.2.2.1, q.2.2.2.2.2.1, p.2.2.2.2.2.2)) rfl
  have g6 : ((((((ps.set i (q.1, p.2)).set i (q.1, q.2.1, p.2.2)).set i (q.1, q.2.1, q.2.2.1, p.2.2.2)).set i (q.1, q.2.1, q.2.2.1, q.2.2.2.1, p.2.2.2.2)).set i (q.1, q.2.1, q.2.2.1, q.2.2.2.1, q.2.2.2.2.1, p.2.2.2.2.2)).set i (q.1, q.2.1, q.2.2.1, q.2.2.2.1, q.2.2.2.2.1, q.2.2.2.2.2.1, p.2.2.2.2.2.2))[i]? = some (q.1, q.2.1, q.2.2.1, q.2.2.2.1, q.2.2.2.2.1, q.2.2.2.2.2.1, p.2.2.2.2.2.2) := by simp [hi']
  have h7 := h6.set (by simpa using hn) g6 6 (by omega) (.int .i64 q.2.2.2.2.2.2.1) (q := (q.1, q.2.1, q.2.2.1, q.2.2.2.1, q.2.2.2.2.1, q.2.2.2.2.2.1, q.2.2.2.2.2.2.1, p.2.2.2.2.2.2.2)) rfl
  have g7 : (((((((ps.set i (q.1, p.2)).set i (q.1, q.2.1, p.2.2)).set i (q.1, q.2.1, q.2.2.1, p.2.2.2)).set i (q.1, q.2.1, q.2.2.1, q.2.2.2.1, p.2.2.2.2)).set i (q.1, q.2.1, q.2.2.1, q.2.2.2.1, q.2.2.2.2.1, p.2.2.2.2.2)).set i (q.1, q.2.1, q.2.2.1, q.2.2.2.1, q.2.2.2.2.1, q.2.2.2.2.2.1, p.2.2.2.2.2.2)).set i (q.1, q.2.1, q.2.2.1, q.2.2.2.1, q.2.2.2.2.1, q.2.2.2.2.2.1, q.2.2.2.2.2.2.1, p.2.2.2.2.2.2.2))[i]? = some (q.1, q.2.1, q.2.2.1, q.2.2.2.1, q.2.2.2.2.1, q.2.2.2.2.2.1, q.2.2.2.2.2.2.1, p.2.2.2.2.2.2.2) := by simp [hi']
  have h8 := h7.set (by simpa using hn) g7 7 (by omega) (.int .i64 q.2.2.2.2.2.2.2.1) (q := (q.1, q.2.1, q.2.2.1, q.2.2.2.1, q.2.2.2.2.1, q.2.2.2.2.2.1, q.2.2.2.2.2.2.1, q.2.2.2.2.2.2.2.1, p.2.2.2.2.2.2.2.2)) rfl
  have g8 : ((((((((ps.set i (q.1, p.2)).set i (q.1, q.2.1, p.2.2)).set i (q.1, q.2.1, q.2.2.1, p.2.2.2)).set i (q.1, q.2.1, q.2.2.1, q.2.2.2.1, p.2.2.2.2)).set i (q.1, q.2.1, q.2.2.1, q.2.2.2.1, q.2.2.2.2.1, p.2.2.2.2.2)).set i (q.1, q.2.1, q.2.2.1, q.2.2.2.1, q.2.2.2.2.1, q.2.2.2.2.2.1, p.2.2.2.2.2.2)).set i (q.1, q.2.1, q.2.2.1, q.2.2.2.1, q.2.2.2.2.1, q.2.2.2.2.2.1, q.2.2.2.2.2.2.1, p.2.2.2.2.2.2.2)).set i (q.1, q.2.1, q.2.2.1, q.2.2.2.1, q.2.2.2.2.1, q.2.2.2.2.2.1, q.2.2.2.2.2.2.1, q.2.2.2.2.2.2.2.1, p.2.2.2.2.2.2.2.2))[i]? = some (q.1, q.2.1, q.2.2.1, q.2.2.2.1, q.2.2.2.2.1, q.2.2.2.2.2.1, q.2.2.2.2.2.2.1, q.2.2.2.2.2.2.2.1, p.2.2.2.2.2.2.2.2) := by simp [hi']
  have h9 := h8.set (by simpa using hn) g8 8 (by omega) (.int .i64 q.2.2.2.2.2.2.2.2) (q := q) rfl
  refine ⟨(h1.cells g1).2.1, (h2.cells g2).2.2.1, (h3.cells g3).2.2.2.1, (h4.cells g4).2.2.2.2.1, (h5.cells g5).2.2.2.2.2.1, (h6.cells g6).2.2.2.2.2.2.1, (h7.cells g7).2.2.2.2.2.2.2.1, (h8.cells g8).2.2.2.2.2.2.2.2.1, by simpa using h9⟩

end Go.Proofs.YtoimpkhgdpkhkaaDoor
