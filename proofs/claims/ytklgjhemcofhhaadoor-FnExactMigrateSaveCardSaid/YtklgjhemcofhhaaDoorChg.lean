/-
  Changes: as plain data, and how lists of them lie in memory.
-/
import Derived.Test.YtklgjhemcofhhaaDoorRows
import Derived.Test.YtklgjhemcofhhaaDoorBase
namespace Go.Proofs.YtklgjhemcofhhaaDoor
open Go.ChangeShapes Go.WideShapes Go.ChangeAt Go.RowKit
abbrev ChgD := Int × Int × ByteArray × ByteArray × Int
def chgC (p : ChgD) : List Value := [.int .i64 p.1, .int .i64 p.2.1, .string p.2.2.1, .string p.2.2.2.1, .int .i64 p.2.2.2.2]
theorem chgC_len (p : ChgD) : (chgC p).length = 5 := rfl
def chg0 : ChgD := (0, 0, ByteArray.empty, ByteArray.empty, 0)
def ChgAt (w : World) (v : Value) (ps : List ChgD) : Prop := RowAt w v ps.length (ps.flatMap chgC)
def ChgO (w : World) (lo hi : Nat) (v : Value) (ps : List ChgD) : Prop := RowO w lo hi 70 5 v ps.length (ps.flatMap chgC)
theorem ChgAt.kept {w w' : World} {v : Value} {ps : List ChgD} (h : ChgAt w v ps) (k : Kept w w') : ChgAt w' v ps := RowAt.kept h k
theorem ChgO.kept {w w' : World} {lo hi : Nat} {v : Value} {ps : List ChgD} (h : ChgO w lo hi v ps) (k : Kept w w') : ChgO w' lo hi v ps := RowO.kept h k
theorem ChgO.but {w w' : World} {lo hi lo' hi' : Nat} {v : Value} {ps : List ChgD} (h : ChgO w lo hi v ps) (k : But lo' hi' w w') (ho : hi ≤ lo' ∨ hi' ≤ lo) : ChgO w' lo hi v ps := RowO.but h k ho
theorem ChgO.mono {w : World} {lo hi lo' hi' : Nat} {v : Value} {ps : List ChgD} (h : ChgO w lo hi v ps) (h1 : lo' ≤ lo) (h2 : hi ≤ hi') : ChgO w lo' hi' v ps := RowO.mono h h1 h2
theorem ChgO.low {w : World} {lo hi : Nat} {v : Value} {ps : List ChgD} (h : ChgO w lo hi v ps) : ChgO w lo w.heap.size v ps := RowO.low h
theorem ChgO.at {w : World} {lo hi : Nat} {v : Value} {ps : List ChgD} (h : ChgO w lo hi v ps) : ChgAt w v ps := own_row h.1
theorem ChgO.form {w : World} {lo hi : Nat} {v : Value} {ps : List ChgD} (h : ChgO w lo hi v ps) : ∃ ao cap, v = .slice ao ps.length cap := by
  obtain ⟨ao, cap, e, _⟩ := own_form h.1
  exact ⟨ao, cap, e⟩
theorem chg_get {w : World} {v : Value} {ps : List ChgD} (h : ChgAt w v ps) {i : Nat} {p : ChgD} (hp : ps[i]? = some p) :
    ∃ b o cap, v = .slice (some ⟨b, o, none⟩) ps.length cap ∧ w.cell? ⟨b, o + i * 5, none⟩ = some (.int .i64 p.1) ∧ w.cell? ⟨b, o + i * 5 + 1, none⟩ = some (.int .i64 p.2.1) ∧ w.cell? ⟨b, o + i * 5 + 2, none⟩ = some (.string p.2.2.1) ∧ w.cell? ⟨b, o + i * 5 + 3, none⟩ = some (.string p.2.2.2.1) ∧ w.cell? ⟨b, o + i * 5 + 4, none⟩ = some (.int .i64 p.2.2.2.2) := by
  obtain ⟨b, o, cap, e, hc⟩ := row_get 5 chgC chgC_len (by omega) h hp
  exact ⟨b, o, cap, e, hc 0 _ rfl, hc 1 _ rfl, hc 2 _ rfl, hc 3 _ rfl, hc 4 _ rfl⟩
theorem ChgO.cells {w : World} {lo hi g cap n : Nat} {ps : List ChgD} (h : ChgO w lo hi (.slice (some ⟨g, 0, none⟩) n cap) ps) {i : Nat} {p : ChgD} (hp : ps[i]? = some p) :
    w.cell? ⟨g, i * 5, none⟩ = some (.int .i64 p.1) ∧ w.cell? ⟨g, i * 5 + 1, none⟩ = some (.int .i64 p.2.1) ∧ w.cell? ⟨g, i * 5 + 2, none⟩ = some (.string p.2.2.1) ∧ w.cell? ⟨g, i * 5 + 3, none⟩ = some (.string p.2.2.2.1) ∧ w.cell? ⟨g, i * 5 + 4, none⟩ = some (.int .i64 p.2.2.2.2) ∧ ∀ o, w.frozen? ⟨g, o, none⟩ = false := by
  obtain ⟨hc, hf⟩ := own_get 5 chgC chgC_len (by omega) h hp
  exact ⟨hc 0 _ rfl, hc 1 _ rfl, hc 2 _ rfl, hc 3 _ rfl, hc 4 _ rfl, hf⟩
theorem ChgO.set {w : World} {lo hi g cap n : Nat} {ps : List ChgD} (h : ChgO w lo hi (.slice (some ⟨g, 0, none⟩) n cap) ps) (hn : n = ps.length) {i : Nat} {p q : ChgD} (hp : ps[i]? = some p) (j : Nat) (hj : j < 5) (u : Value) (hu : (chgC p).set j u = chgC q) :
    ChgO (w.setCell ⟨g, i * 5 + j, none⟩ u) lo hi (.slice (some ⟨g, 0, none⟩) n cap) (ps.set i q) := by
  subst hn
  have := RowO.set h (i * 5 + j) u
  unfold ChgO
  rw [List.length_set]
  rw [Nat.mul_comm i 5] at this ⊢
  rw [flat_set 5 chgC chgC_len ps i j p q u hp hj hu] at this
  exact this
/-- An element of a row's own set anew, field by field. -/
theorem ChgO.store {w : World} {lo hi g cap n : Nat} {ps : List ChgD} (h : ChgO w lo hi (.slice (some ⟨g, 0, none⟩) n cap) ps) (hn : n = ps.length) {i : Nat} {p : ChgD} (hp : ps[i]? = some p) (q : ChgD) :
    (w.setCell ⟨g, i * 5, none⟩ (.int .i64 q.1)).cell? ⟨g, i * 5 + 1, none⟩ = some (.int .i64 p.2.1) ∧
    ((w.setCell ⟨g, i * 5, none⟩ (.int .i64 q.1)).setCell ⟨g, i * 5 + 1, none⟩ (.int .i64 q.2.1)).cell? ⟨g, i * 5 + 2, none⟩ = some (.string p.2.2.1) ∧
    (((w.setCell ⟨g, i * 5, none⟩ (.int .i64 q.1)).setCell ⟨g, i * 5 + 1, none⟩ (.int .i64 q.2.1)).setCell ⟨g, i * 5 + 2, none⟩ (.string q.2.2.1)).cell? ⟨g, i * 5 + 3, none⟩ = some (.string p.2.2.2.1) ∧
    ((((w.setCell ⟨g, i * 5, none⟩ (.int .i64 q.1)).setCell ⟨g, i * 5 + 1, none⟩ (.int .i64 q.2.1)).setCell ⟨g, i * 5 + 2, none⟩ (.string q.2.2.1)).setCell ⟨g, i * 5 + 3, none⟩ (.string q.2.2.2.1)).cell? ⟨g, i * 5 + 4, none⟩ = some (.int .i64 p.2.2.2.2) ∧
    ChgO (((((w.setCell ⟨g, i * 5, none⟩ (.int .i64 q.1)).setCell ⟨g, i * 5 + 1, none⟩ (.int .i64 q.2.1)).setCell ⟨g, i * 5 + 2, none⟩ (.string q.2.2.1)).setCell ⟨g, i * 5 + 3, none⟩ (.string q.2.2.2.1)).setCell ⟨g, i * 5 + 4, none⟩ (.int .i64 q.2.2.2.2)) lo hi (.slice (some ⟨g, 0, none⟩) n cap) (ps.set i q) := by
  have hi' : i < ps.length := (List.getElem?_eq_some_iff.1 hp).1
  have h1 := h.set (by simpa using hn) hp 0 (by omega) (.int .i64 q.1) (q := (q.1, p.2)) rfl
  have g1 : (ps.set i (q.1, p.2))[i]? = some (q.1, p.2) := by simp [hi']
  have h2 := h1.set (by simpa using hn) g1 1 (by omega) (.int .i64 q.2.1) (q := (q.1, q.2.1, p.2.2)) rfl
  have g2 : ((ps.set i (q.1, p.2)).set i (q.1, q.2.1, p.2.2))[i]? = some (q.1, q.2.1, p.2.2) := by simp [hi']
  have h3 := h2.set (by simpa using hn) g2 2 (by omega) (.string q.2.2.1) (q := (q.1, q.2.1, q.2.2.1, p.2.2.2)) rfl
  have g3 : (((ps.set i (q.1, p.2)).set i (q.1, q.2.1, p.2.2)).set i (q.1, q.2.1, q.2.2.1, p.2.2.2))[i]? = some (q.1, q.2.1, q.2.2.1, p.2.2.2) := by simp [hi']
  have h4 := h3.set (by simpa using hn) g3 3 (by omega) (.string q.2.2.2.1) (q := (q.1, q.2.1, q.2.2.1, q.2.2.2.1, p.2.2.2.2)) rfl
  have g4 : ((((ps.set i (q.1, p.2)).set i (q.1, q.2.1, p.2.2)).set i (q.1, q.2.1, q.2.2.1, p.2.2.2)).set i (q.1, q.2.1, q.2.2.1, q.2.2.2.1, p.2.2.2.2))[i]? = some (q.1, q.2.1, q.2.2.1, q.2.2.2.1, p.2.2.2.2) := by simp [hi']
  have h5 := h4.set (by simpa using hn) g4 4 (by omega) (.int .i64 q.2.2.2.2) (q := q) rfl
  refine ⟨(h1.cells g1).2.1, (h2.cells g2).2.2.1, (h3.cells g3).2.2.2.1, (h4.cells g4).2.2.2.2.1, by simpa using h5⟩

end Go.Proofs.YtklgjhemcofhhaaDoor
