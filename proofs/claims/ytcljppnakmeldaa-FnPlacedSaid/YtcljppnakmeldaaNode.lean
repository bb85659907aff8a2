/-
  Nodes as plain data, and how lists of them lie in memory.
-/
import Derived.Test.YtcljppnakmeldaaBase
namespace Go.Proofs.Ytcljppnakmeldaa
open Go.ChangeShapes Go.WideShapes Go.ChangeAt Go.RowKit
abbrev NodeD := ByteArray × Int × Int × Int × Int × Bool
def nodeC (p : NodeD) : List Value := [.string p.1, .int .i64 p.2.1, .int .i64 p.2.2.1, .int .i64 p.2.2.2.1, .int .i64 p.2.2.2.2.1, .bool p.2.2.2.2.2]
theorem nodeC_len (p : NodeD) : (nodeC p).length = 6 := rfl
def node0 : NodeD := (ByteArray.empty, 0, 0, 0, 0, false)
def NodeAt (w : World) (v : Value) (ps : List NodeD) : Prop := RowAt w v ps.length (ps.flatMap nodeC)
def NodeO (w : World) (lo hi : Nat) (v : Value) (ps : List NodeD) : Prop := RowO w lo hi 36 6 v ps.length (ps.flatMap nodeC)
theorem NodeAt.kept {w w' : World} {v : Value} {ps : List NodeD} (h : NodeAt w v ps) (k : Kept w w') : NodeAt w' v ps := RowAt.kept h k
theorem NodeO.kept {w w' : World} {lo hi : Nat} {v : Value} {ps : List NodeD} (h : NodeO w lo hi v ps) (k : Kept w w') : NodeO w' lo hi v ps := RowO.kept h k
theorem NodeO.but {w w' : World} {lo hi lo' hi' : Nat} {v : Value} {ps : List NodeD} (h : NodeO w lo hi v ps) (k : But lo' hi' w w') (ho : hi ≤ lo' ∨ hi' ≤ lo) : NodeO w' lo hi v ps := RowO.but h k ho
theorem NodeO.mono {w : World} {lo hi lo' hi' : Nat} {v : Value} {ps : List NodeD} (h : NodeO w lo hi v ps) (h1 : lo' ≤ lo) (h2 : hi ≤ hi') : NodeO w lo' hi' v ps := RowO.mono h h1 h2
theorem NodeO.low {w : World} {lo hi : Nat} {v : Value} {ps : List NodeD} (h : NodeO w lo hi v ps) : NodeO w lo w.heap.size v ps := RowO.low h
theorem NodeO.at {w : World} {lo hi : Nat} {v : Value} {ps : List NodeD} (h : NodeO w lo hi v ps) : NodeAt w v ps := own_row h.1
theorem NodeO.form {w : World} {lo hi : Nat} {v : Value} {ps : List NodeD} (h : NodeO w lo hi v ps) : ∃ ao cap, v = .slice ao ps.length cap := by
  obtain ⟨ao, cap, e, _⟩ := own_form h.1
  exact ⟨ao, cap, e⟩
theorem node_get {w : World} {v : Value} {ps : List NodeD} (h : NodeAt w v ps) {i : Nat} {p : NodeD} (hp : ps[i]? = some p) :
    ∃ b o cap, v = .slice (some ⟨b, o, none⟩) ps.length cap ∧ w.cell? ⟨b, o + i * 6, none⟩ = some (.string p.1) ∧ w.cell? ⟨b, o + i * 6 + 1, none⟩ = some (.int .i64 p.2.1) ∧ w.cell? ⟨b, o + i * 6 + 2, none⟩ = some (.int .i64 p.2.2.1) ∧ w.cell? ⟨b, o + i * 6 + 3, none⟩ = some (.int .i64 p.2.2.2.1) ∧ w.cell? ⟨b, o + i * 6 + 4, none⟩ = some (.int .i64 p.2.2.2.2.1) ∧ w.cell? ⟨b, o + i * 6 + 5, none⟩ = some (.bool p.2.2.2.2.2) := by
  obtain ⟨b, o, cap, e, hc⟩ := row_get 6 nodeC nodeC_len (by omega) h hp
  exact ⟨b, o, cap, e, hc 0 _ rfl, hc 1 _ rfl, hc 2 _ rfl, hc 3 _ rfl, hc 4 _ rfl, hc 5 _ rfl⟩
theorem NodeO.cells {w : World} {lo hi g cap n : Nat} {ps : List NodeD} (h : NodeO w lo hi (.slice (some ⟨g, 0, none⟩) n cap) ps) {i : Nat} {p : NodeD} (hp : ps[i]? = some p) :
    w.cell? ⟨g, i * 6, none⟩ = some (.string p.1) ∧ w.cell? ⟨g, i * 6 + 1, none⟩ = some (.int .i64 p.2.1) ∧ w.cell? ⟨g, i * 6 + 2, none⟩ = some (.int .i64 p.2.2.1) ∧ w.cell? ⟨g, i * 6 + 3, none⟩ = some (.int .i64 p.2.2.2.1) ∧ w.cell? ⟨g, i * 6 + 4, none⟩ = some (.int .i64 p.2.2.2.2.1) ∧ w.cell? ⟨g, i * 6 + 5, none⟩ = some (.bool p.2.2.2.2.2) ∧ ∀ o, w.frozen? ⟨g, o, none⟩ = false := by
  obtain ⟨hc, hf⟩ := own_get 6 nodeC nodeC_len (by omega) h hp
  exact ⟨hc 0 _ rfl, hc 1 _ rfl, hc 2 _ rfl, hc 3 _ rfl, hc 4 _ rfl, hc 5 _ rfl, hf⟩
theorem NodeO.set {w : World} {lo hi g cap n : Nat} {ps : List NodeD} (h : NodeO w lo hi (.slice (some ⟨g, 0, none⟩) n cap) ps) (hn : n = ps.length) {i : Nat} {p q : NodeD} (hp : ps[i]? = some p) (j : Nat) (hj : j < 6) (u : Value) (hu : (nodeC p).set j u = nodeC q) :
    NodeO (w.setCell ⟨g, i * 6 + j, none⟩ u) lo hi (.slice (some ⟨g, 0, none⟩) n cap) (ps.set i q) := by
  subst hn
  have := RowO.set h (i * 6 + j) u
  unfold NodeO
  rw [List.length_set]
  rw [Nat.mul_comm i 6] at this ⊢
  rw [flat_set 6 nodeC nodeC_len ps i j p q u hp hj hu] at this
  exact this
/-- An element of a row's own set anew, field by field. -/
theorem NodeO.store {w : World} {lo hi g cap n : Nat} {ps : List NodeD} (h : NodeO w lo hi (.slice (some ⟨g, 0, none⟩) n cap) ps) (hn : n = ps.length) {i : Nat} {p : NodeD} (hp : ps[i]? = some p) (q : NodeD) :
    (w.setCell ⟨g, i * 6, none⟩ (.string q.1)).cell? ⟨g, i * 6 + 1, none⟩ = some (.int .i64 p.2.1) ∧
    ((w.setCell ⟨g, i * 6, none⟩ (.string q.1)).setCell ⟨g, i * 6 + 1, none⟩ (.int .i64 q.2.1)).cell? ⟨g, i * 6 + 2, none⟩ = some (.int .i64 p.2.2.1) ∧
    (((w.setCell ⟨g, i * 6, none⟩ (.string q.1)).setCell ⟨g, i * 6 + 1, none⟩ (.int .i64 q.2.1)).setCell ⟨g, i * 6 + 2, none⟩ (.int .i64 q.2.2.1)).cell? ⟨g, i * 6 + 3, none⟩ = some (.int .i64 p.2.2.2.1) ∧
    ((((w.setCell ⟨g, i * 6, none⟩ (.string q.1)).setCell ⟨g, i * 6 + 1, none⟩ (.int .i64 q.2.1)).setCell ⟨g, i * 6 + 2, none⟩ (.int .i64 q.2.2.1)).setCell ⟨g, i * 6 + 3, none⟩ (.int .i64 q.2.2.2.1)).cell? ⟨g, i * 6 + 4, none⟩ = some (.int .i64 p.2.2.2.2.1) ∧
    (((((w.setCell ⟨g, i * 6, none⟩ (.string q.1)).setCell ⟨g, i * 6 + 1, none⟩ (.int .i64 q.2.1)).setCell ⟨g, i * 6 + 2, none⟩ (.int .i64 q.2.2.1)).setCell ⟨g, i * 6 + 3, none⟩ (.int .i64 q.2.2.2.1)).setCell ⟨g, i * 6 + 4, none⟩ (.int .i64 q.2.2.2.2.1)).cell? ⟨g, i * 6 + 5, none⟩ = some (.bool p.2.2.2.2.2) ∧
    NodeO ((((((w.setCell ⟨g, i * 6, none⟩ (.string q.1)).setCell ⟨g, i * 6 + 1, none⟩ (.int .i64 q.2.1)).setCell ⟨g, i * 6 + 2, none⟩ (.int .i64 q.2.2.1)).setCell ⟨g, i * 6 + 3, none⟩ (.int .i64 q.2.2.2.1)).setCell ⟨g, i * 6 + 4, none⟩ (.int .i64 q.2.2.2.2.1)).setCell ⟨g, i * 6 + 5, none⟩ (.bool q.2.2.2.2.2)) lo hi (.slice (some ⟨g, 0, none⟩) n cap) (ps.set i q) := by
  have hi' : i < ps.length := (List.getElem?_eq_some_iff.1 hp).1
  have h1 := h.set (by simpa using hn) hp 0 (by omega) (.string q.1) (q := (q.1, p.2)) rfl
  have g1 : (ps.set i (q.1, p.2))[i]? = some (q.1, p.2) := by simp [hi']
  have h2 := h1.set (by simpa using hn) g1 1 (by omega) (.int .i64 q.2.1) (q := (q.1, q.2.1, p.2.2)) rfl
  have g2 : ((ps.set i (q.1, p.2)).set i (q.1, q.2.1, p.2.2))[i]? = some (q.1, q.2.1, p.2.2) := by simp [hi']
  have h3 := h2.set (by simpa using hn) g2 2 (by omega) (.int .i64 q.2.2.1) (q := (q.1, q.2.1, q.2.2.1, p.2.2.2)) rfl
  have g3 : (((ps.set i (q.1, p.2)).set i (q.1, q.2.1, p.2.2)).set i (q.1, q.2.1, q.2.2.1, p.2.2.2))[i]? = some (q.1, q.2.1, q.2.2.1, p.2.2.2) := by simp [hi']
  have h4 := h3.set (by simpa using hn) g3 3 (by omega) (.int .i64 q.2.2.2.1) (q := (q.1, q.2.1, q.2.2.1, q.2.2.2.1, p.2.2.2.2)) rfl
  have g4 : ((((ps.set i (q.1, p.2)).set i (q.1, q.2.1, p.2.2)).set i (q.1, q.2.1, q.2.2.1, p.2.2.2)).set i (q.1, q.2.1, q.2.2.1, q.2.2.2.1, p.2.2.2.2))[i]? = some (q.1, q.2.1, q.2.2.1, q.2.2.2.1, p.2.2.2.2) := by simp [hi']
  have h5 := h4.set (by simpa using hn) g4 4 (by omega) (.int .i64 q.2.2.2.2.1) (q := (q.1, q.2.1, q.2.2.1, q.2.2.2.1, q.2.2.2.2.1, p.2.2.2.2.2)) rfl
  have g5 : (((((ps.set i (q.1, p.2)).set i (q.1, q.2.1, p.2.2)).set i (q.1, q.2.1, q.2.2.1, p.2.2.2)).set i (q.1, q.2.1, q.2.2.1, q.2.2.2.1, p.2.2.2.2)).set i (q.1, q.2.1, q.2.2.1, q.2.2.2.1, q.2.2.2.2.1, p.2.2.2.2.2))[i]? = some (q.1, q.2.1, q.2.2.1, q.2.2.2.1, q.2.2.2.2.1, p.2.2.2.2.2) := by simp [hi']
  have h6 := h5.set (by simpa using hn) g5 5 (by omega) (.bool q.2.2.2.2.2) (q := q) rfl
  refine ⟨(h1.cells g1).2.1, (h2.cells g2).2.2.1, (h3.cells g3).2.2.2.1, (h4.cells g4).2.2.2.2.1, (h5.cells g5).2.2.2.2.2.1, by simpa using h6⟩
abbrev SpotD := Int × Int × Int × Bool
def spotC (p : SpotD) : List Value := [.int .i64 p.1, .int .i64 p.2.1, .int .i64 p.2.2.1, .bool p.2.2.2]
theorem spotC_len (p : SpotD) : (spotC p).length = 4 := rfl
def spot0 : SpotD := (0, 0, 0, false)
def SpotAt (w : World) (v : Value) (ps : List SpotD) : Prop := RowAt w v ps.length (ps.flatMap spotC)
def SpotO (w : World) (lo hi : Nat) (v : Value) (ps : List SpotD) : Prop := RowO w lo hi 24 4 v ps.length (ps.flatMap spotC)
theorem SpotAt.kept {w w' : World} {v : Value} {ps : List SpotD} (h : SpotAt w v ps) (k : Kept w w') : SpotAt w' v ps := RowAt.kept h k
theorem SpotO.kept {w w' : World} {lo hi : Nat} {v : Value} {ps : List SpotD} (h : SpotO w lo hi v ps) (k : Kept w w') : SpotO w' lo hi v ps := RowO.kept h k
theorem SpotO.but {w w' : World} {lo hi lo' hi' : Nat} {v : Value} {ps : List SpotD} (h : SpotO w lo hi v ps) (k : But lo' hi' w w') (ho : hi ≤ lo' ∨ hi' ≤ lo) : SpotO w' lo hi v ps := RowO.but h k ho
theorem SpotO.mono {w : World} {lo hi lo' hi' : Nat} {v : Value} {ps : List SpotD} (h : SpotO w lo hi v ps) (h1 : lo' ≤ lo) (h2 : hi ≤ hi') : SpotO w lo' hi' v ps := RowO.mono h h1 h2
theorem SpotO.low {w : World} {lo hi : Nat} {v : Value} {ps : List SpotD} (h : SpotO w lo hi v ps) : SpotO w lo w.heap.size v ps := RowO.low h
theorem SpotO.at {w : World} {lo hi : Nat} {v : Value} {ps : List SpotD} (h : SpotO w lo hi v ps) : SpotAt w v ps := own_row h.1
theorem SpotO.form {w : World} {lo hi : Nat} {v : Value} {ps : List SpotD} (h : SpotO w lo hi v ps) : ∃ ao cap, v = .slice ao ps.length cap := by
  obtain ⟨ao, cap, e, _⟩ := own_form h.1
  exact ⟨ao, cap, e⟩
theorem spot_get {w : World} {v : Value} {ps : List SpotD} (h : SpotAt w v ps) {i : Nat} {p : SpotD} (hp : ps[i]? = some p) :
    ∃ b o cap, v = .slice (some ⟨b, o, none⟩) ps.length cap ∧ w.cell? ⟨b, o + i * 4, none⟩ = some (.int .i64 p.1) ∧ w.cell? ⟨b, o + i * 4 + 1, none⟩ = some (.int .i64 p.2.1) ∧ w.cell? ⟨b, o + i * 4 + 2, none⟩ = some (.int .i64 p.2.2.1) ∧ w.cell? ⟨b, o + i * 4 + 3, none⟩ = some (.bool p.2.2.2) := by
  obtain ⟨b, o, cap, e, hc⟩ := row_get 4 spotC spotC_len (by omega) h hp
  exact ⟨b, o, cap, e, hc 0 _ rfl, hc 1 _ rfl, hc 2 _ rfl, hc 3 _ rfl⟩
theorem SpotO.cells {w : World} {lo hi g cap n : Nat} {ps : List SpotD} (h : SpotO w lo hi (.slice (some ⟨g, 0, none⟩) n cap) ps) {i : Nat} {p : SpotD} (hp : ps[i]? = some p) :
    w.cell? ⟨g, i * 4, none⟩ = some (.int .i64 p.1) ∧ w.cell? ⟨g, i * 4 + 1, none⟩ = some (.int .i64 p.2.1) ∧ w.cell? ⟨g, i * 4 + 2, none⟩ = some (.int .i64 p.2.2.1) ∧ w.cell? ⟨g, i * 4 + 3, none⟩ = some (.bool p.2.2.2) ∧ ∀ o, w.frozen? ⟨g, o, none⟩ = false := by
  obtain ⟨hc, hf⟩ := own_get 4 spotC spotC_len (by omega) h hp
  exact ⟨hc 0 _ rfl, hc 1 _ rfl, hc 2 _ rfl, hc 3 _ rfl, hf⟩
theorem SpotO.set {w : World} {lo hi g cap n : Nat} {ps : List SpotD} (h : SpotO w lo hi (.slice (some ⟨g, 0, none⟩) n cap) ps) (hn : n = ps.length) {i : Nat} {p q : SpotD} (hp : ps[i]? = some p) (j : Nat) (hj : j < 4) (u : Value) (hu : (spotC p).set j u = spotC q) :
    SpotO (w.setCell ⟨g, i * 4 + j, none⟩ u) lo hi (.slice (some ⟨g, 0, none⟩) n cap) (ps.set i q) := by
  subst hn
  have := RowO.set h (i * 4 + j) u
  unfold SpotO
  rw [List.length_set]
  rw [Nat.mul_comm i 4] at this ⊢
  rw [flat_set 4 spotC spotC_len ps i j p q u hp hj hu] at this
  exact this
/-- An element of a row's own set anew, field by field. -/
theorem SpotO.store {w : World} {lo hi g cap n : Nat} {ps : List SpotD} (h : SpotO w lo hi (.slice (some ⟨g, 0, none⟩) n cap) ps) (hn : n = ps.length) {i : Nat} {p : SpotD} (hp : ps[i]? = some p) (q : SpotD) :
    (w.setCell ⟨g, i * 4, none⟩ (.int .i64 q.1)).cell? ⟨g, i * 4 + 1, none⟩ = some (.int .i64 p.2.1) ∧
    ((w.setCell ⟨g, i * 4, none⟩ (.int .i64 q.1)).setCell ⟨g, i * 4 + 1, none⟩ (.int .i64 q.2.1)).cell? ⟨g, i * 4 + 2, none⟩ = some (.int .i64 p.2.2.1) ∧
    (((w.setCell ⟨g, i * 4, none⟩ (.int .i64 q.1)).setCell ⟨g, i * 4 + 1, none⟩ (.int .i64 q.2.1)).setCell ⟨g, i * 4 + 2, none⟩ (.int .i64 q.2.2.1)).cell? ⟨g, i * 4 + 3, none⟩ = some (.bool p.2.2.2) ∧
    SpotO ((((w.setCell ⟨g, i * 4, none⟩ (.int .i64 q.1)).setCell ⟨g, i * 4 + 1, none⟩ (.int .i64 q.2.1)).setCell ⟨g, i * 4 + 2, none⟩ (.int .i64 q.2.2.1)).setCell ⟨g, i * 4 + 3, none⟩ (.bool q.2.2.2)) lo hi (.slice (some ⟨g, 0, none⟩) n cap) (ps.set i q) := by
  have hi' : i < ps.length := (List.getElem?_eq_some_iff.1 hp).1
  have h1 := h.set (by simpa using hn) hp 0 (by omega) (.int .i64 q.1) (q := (q.1, p.2)) rfl
  have g1 : (ps.set i (q.1, p.2))[i]? = some (q.1, p.2) := by simp [hi']
  have h2 := h1.set (by simpa using hn) g1 1 (by omega) (.int .i64 q.2.1) (q := (q.1, q.2.1, p.2.2)) rfl
  have g2 : ((ps.set i (q.1, p.2)).set i (q.1, q.2.1, p.2.2))[i]? = some (q.1, q.2.1, p.2.2) := by simp [hi']
  have h3 := h2.set (by simpa using hn) g2 2 (by omega) (.int .i64 q.2.2.1) (q := (q.1, q.2.1, q.2.2.1, p.2.2.2)) rfl
  have g3 : (((ps.set i (q.1, p.2)).set i (q.1, q.2.1, p.2.2)).set i (q.1, q.2.1, q.2.2.1, p.2.2.2))[i]? = some (q.1, q.2.1, q.2.2.1, p.2.2.2) := by simp [hi']
  have h4 := h3.set (by simpa using hn) g3 3 (by omega) (.bool q.2.2.2) (q := q) rfl
  refine ⟨(h1.cells g1).2.1, (h2.cells g2).2.2.1, (h3.cells g3).2.2.2.1, by simpa using h4⟩

end Go.Proofs.Ytcljppnakmeldaa
