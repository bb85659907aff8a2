/-
  Timers and what fired as plain data, and how lists of them lie in memory.
-/
import Derived.Test.YthihgjcnjgpegaaBase
namespace Go.Proofs.Ythihgjcnjgpegaa
open Go.ChangeShapes Go.WideShapes Go.ChangeAt Go.RowKit
abbrev TimerD := Int × Int × Int × Int
def timerC (p : TimerD) : List Value := [.int .i64 p.1, .int .i64 p.2.1, .int .i64 p.2.2.1, .int .i64 p.2.2.2]
theorem timerC_len (p : TimerD) : (timerC p).length = 4 := rfl
def timer0 : TimerD := (0, 0, 0, 0)
def TimerAt (w : World) (v : Value) (ps : List TimerD) : Prop := RowAt w v ps.length (ps.flatMap timerC)
def TimerO (w : World) (lo hi : Nat) (v : Value) (ps : List TimerD) : Prop := RowO w lo hi 46 4 v ps.length (ps.flatMap timerC)
theorem TimerAt.kept {w w' : World} {v : Value} {ps : List TimerD} (h : TimerAt w v ps) (k : Kept w w') : TimerAt w' v ps := RowAt.kept h k
theorem TimerO.kept {w w' : World} {lo hi : Nat} {v : Value} {ps : List TimerD} (h : TimerO w lo hi v ps) (k : Kept w w') : TimerO w' lo hi v ps := RowO.kept h k
theorem TimerO.but {w w' : World} {lo hi lo' hi' : Nat} {v : Value} {ps : List TimerD} (h : TimerO w lo hi v ps) (k : But lo' hi' w w') (ho : hi ≤ lo' ∨ hi' ≤ lo) : TimerO w' lo hi v ps := RowO.but h k ho
theorem TimerO.mono {w : World} {lo hi lo' hi' : Nat} {v : Value} {ps : List TimerD} (h : TimerO w lo hi v ps) (h1 : lo' ≤ lo) (h2 : hi ≤ hi') : TimerO w lo' hi' v ps := RowO.mono h h1 h2
theorem TimerO.low {w : World} {lo hi : Nat} {v : Value} {ps : List TimerD} (h : TimerO w lo hi v ps) : TimerO w lo w.heap.size v ps := RowO.low h
theorem TimerO.at {w : World} {lo hi : Nat} {v : Value} {ps : List TimerD} (h : TimerO w lo hi v ps) : TimerAt w v ps := own_row h.1
theorem TimerO.form {w : World} {lo hi : Nat} {v : Value} {ps : List TimerD} (h : TimerO w lo hi v ps) : ∃ ao cap, v = .slice ao ps.length cap := by
  obtain ⟨ao, cap, e, _⟩ := own_form h.1
  exact ⟨ao, cap, e⟩
theorem timer_get {w : World} {v : Value} {ps : List TimerD} (h : TimerAt w v ps) {i : Nat} {p : TimerD} (hp : ps[i]? = some p) :
    ∃ b o cap, v = .slice (some ⟨b, o, none⟩) ps.length cap ∧ w.cell? ⟨b, o + i * 4, none⟩ = some (.int .i64 p.1) ∧ w.cell? ⟨b, o + i * 4 + 1, none⟩ = some (.int .i64 p.2.1) ∧ w.cell? ⟨b, o + i * 4 + 2, none⟩ = some (.int .i64 p.2.2.1) ∧ w.cell? ⟨b, o + i * 4 + 3, none⟩ = some (.int .i64 p.2.2.2) := by
  obtain ⟨b, o, cap, e, hc⟩ := row_get 4 timerC timerC_len (by omega) h hp
  exact ⟨b, o, cap, e, hc 0 _ rfl, hc 1 _ rfl, hc 2 _ rfl, hc 3 _ rfl⟩
theorem TimerO.cells {w : World} {lo hi g cap n : Nat} {ps : List TimerD} (h : TimerO w lo hi (.slice (some ⟨g, 0, none⟩) n cap) ps) {i : Nat} {p : TimerD} (hp : ps[i]? = some p) :
    w.cell? ⟨g, i * 4, none⟩ = some (.int .i64 p.1) ∧ w.cell? ⟨g, i * 4 + 1, none⟩ = some (.int .i64 p.2.1) ∧ w.cell? ⟨g, i * 4 + 2, none⟩ = some (.int .i64 p.2.2.1) ∧ w.cell? ⟨g, i * 4 + 3, none⟩ = some (.int .i64 p.2.2.2) ∧ ∀ o, w.frozen? ⟨g, o, none⟩ = false := by
  obtain ⟨hc, hf⟩ := own_get 4 timerC timerC_len (by omega) h hp
  exact ⟨hc 0 _ rfl, hc 1 _ rfl, hc 2 _ rfl, hc 3 _ rfl, hf⟩
theorem TimerO.set {w : World} {lo hi g cap n : Nat} {ps : List TimerD} (h : TimerO w lo hi (.slice (some ⟨g, 0, none⟩) n cap) ps) (hn : n = ps.length) {i : Nat} {p q : TimerD} (hp : ps[i]? = some p) (j : Nat) (hj : j < 4) (u : Value) (hu : (timerC p).set j u = timerC q) :
    TimerO (w.setCell ⟨g, i * 4 + j, none⟩ u) lo hi (.slice (some ⟨g, 0, none⟩) n cap) (ps.set i q) := by
  subst hn
  have := RowO.set h (i * 4 + j) u
  unfold TimerO
  rw [List.length_set]
  rw [Nat.mul_comm i 4] at this ⊢
  rw [flat_set 4 timerC timerC_len ps i j p q u hp hj hu] at this
  exact this
/-- An element of a row's own set anew, field by field. -/
theorem TimerO.store {w : World} {lo hi g cap n : Nat} {ps : List TimerD} (h : TimerO w lo hi (.slice (some ⟨g, 0, none⟩) n cap) ps) (hn : n = ps.length) {i : Nat} {p : TimerD} (hp : ps[i]? = some p) (q : TimerD) :
    (w.setCell ⟨g, i * 4, none⟩ (.int .i64 q.1)).cell? ⟨g, i * 4 + 1, none⟩ = some (.int .i64 p.2.1) ∧
    ((w.setCell ⟨g, i * 4, none⟩ (.int .i64 q.1)).setCell ⟨g, i * 4 + 1, none⟩ (.int .i64 q.2.1)).cell? ⟨g, i * 4 + 2, none⟩ = some (.int .i64 p.2.2.1) ∧
    (((w.setCell ⟨g, i * 4, none⟩ (.int .i64 q.1)).setCell ⟨g, i * 4 + 1, none⟩ (.int .i64 q.2.1)).setCell ⟨g, i * 4 + 2, none⟩ (.int .i64 q.2.2.1)).cell? ⟨g, i * 4 + 3, none⟩ = some (.int .i64 p.2.2.2) ∧
    TimerO ((((w.setCell ⟨g, i * 4, none⟩ (.int .i64 q.1)).setCell ⟨g, i * 4 + 1, none⟩ (.int .i64 q.2.1)).setCell ⟨g, i * 4 + 2, none⟩ (.int .i64 q.2.2.1)).setCell ⟨g, i * 4 + 3, none⟩ (.int .i64 q.2.2.2)) lo hi (.slice (some ⟨g, 0, none⟩) n cap) (ps.set i q) := by
  have hi' : i < ps.length := (List.getElem?_eq_some_iff.1 hp).1
  have h1 := h.set (by simpa using hn) hp 0 (by omega) (.int .i64 q.1) (q := (q.1, p.2)) rfl
  have g1 : (ps.set i (q.1, p.2))[i]? = some (q.1, p.2) := by simp [hi']
  have h2 := h1.set (by simpa using hn) g1 1 (by omega) (.int .i64 q.2.1) (q := (q.1, q.2.1, p.2.2)) rfl
  have g2 : ((ps.set i (q.1, p.2)).set i (q.1, q.2.1, p.2.2))[i]? = some (q.1, q.2.1, p.2.2) := by simp [hi']
  have h3 := h2.set (by simpa using hn) g2 2 (by omega) (.int .i64 q.2.2.1) (q := (q.1, q.2.1, q.2.2.1, p.2.2.2)) rfl
  have g3 : (((ps.set i (q.1, p.2)).set i (q.1, q.2.1, p.2.2)).set i (q.1, q.2.1, q.2.2.1, p.2.2.2))[i]? = some (q.1, q.2.1, q.2.2.1, p.2.2.2) := by simp [hi']
  have h4 := h3.set (by simpa using hn) g3 3 (by omega) (.int .i64 q.2.2.2) (q := q) rfl
  refine ⟨(h1.cells g1).2.1, (h2.cells g2).2.2.1, (h3.cells g3).2.2.2.1, by simpa using h4⟩
abbrev FiredD := Int × Int
def firedC (p : FiredD) : List Value := [.int .i64 p.1, .int .i64 p.2]
theorem firedC_len (p : FiredD) : (firedC p).length = 2 := rfl
def fired0 : FiredD := (0, 0)
def FiredAt (w : World) (v : Value) (ps : List FiredD) : Prop := RowAt w v ps.length (ps.flatMap firedC)
def FiredO (w : World) (lo hi : Nat) (v : Value) (ps : List FiredD) : Prop := RowO w lo hi 83 2 v ps.length (ps.flatMap firedC)
theorem FiredAt.kept {w w' : World} {v : Value} {ps : List FiredD} (h : FiredAt w v ps) (k : Kept w w') : FiredAt w' v ps := RowAt.kept h k
theorem FiredO.kept {w w' : World} {lo hi : Nat} {v : Value} {ps : List FiredD} (h : FiredO w lo hi v ps) (k : Kept w w') : FiredO w' lo hi v ps := RowO.kept h k
theorem FiredO.but {w w' : World} {lo hi lo' hi' : Nat} {v : Value} {ps : List FiredD} (h : FiredO w lo hi v ps) (k : But lo' hi' w w') (ho : hi ≤ lo' ∨ hi' ≤ lo) : FiredO w' lo hi v ps := RowO.but h k ho
theorem FiredO.mono {w : World} {lo hi lo' hi' : Nat} {v : Value} {ps : List FiredD} (h : FiredO w lo hi v ps) (h1 : lo' ≤ lo) (h2 : hi ≤ hi') : FiredO w lo' hi' v ps := RowO.mono h h1 h2
theorem FiredO.low {w : World} {lo hi : Nat} {v : Value} {ps : List FiredD} (h : FiredO w lo hi v ps) : FiredO w lo w.heap.size v ps := RowO.low h
theorem FiredO.at {w : World} {lo hi : Nat} {v : Value} {ps : List FiredD} (h : FiredO w lo hi v ps) : FiredAt w v ps := own_row h.1
theorem FiredO.form {w : World} {lo hi : Nat} {v : Value} {ps : List FiredD} (h : FiredO w lo hi v ps) : ∃ ao cap, v = .slice ao ps.length cap := by
  obtain ⟨ao, cap, e, _⟩ := own_form h.1
  exact ⟨ao, cap, e⟩
theorem fired_get {w : World} {v : Value} {ps : List FiredD} (h : FiredAt w v ps) {i : Nat} {p : FiredD} (hp : ps[i]? = some p) :
    ∃ b o cap, v = .slice (some ⟨b, o, none⟩) ps.length cap ∧ w.cell? ⟨b, o + i * 2, none⟩ = some (.int .i64 p.1) ∧ w.cell? ⟨b, o + i * 2 + 1, none⟩ = some (.int .i64 p.2) := by
  obtain ⟨b, o, cap, e, hc⟩ := row_get 2 firedC firedC_len (by omega) h hp
  exact ⟨b, o, cap, e, hc 0 _ rfl, hc 1 _ rfl⟩
theorem FiredO.cells {w : World} {lo hi g cap n : Nat} {ps : List FiredD} (h : FiredO w lo hi (.slice (some ⟨g, 0, none⟩) n cap) ps) {i : Nat} {p : FiredD} (hp : ps[i]? = some p) :
    w.cell? ⟨g, i * 2, none⟩ = some (.int .i64 p.1) ∧ w.cell? ⟨g, i * 2 + 1, none⟩ = some (.int .i64 p.2) ∧ ∀ o, w.frozen? ⟨g, o, none⟩ = false := by
  obtain ⟨hc, hf⟩ := own_get 2 firedC firedC_len (by omega) h hp
  exact ⟨hc 0 _ rfl, hc 1 _ rfl, hf⟩
theorem FiredO.set {w : World} {lo hi g cap n : Nat} {ps : List FiredD} (h : FiredO w lo hi (.slice (some ⟨g, 0, none⟩) n cap) ps) (hn : n = ps.length) {i : Nat} {p q : FiredD} (hp : ps[i]? = some p) (j : Nat) (hj : j < 2) (u : Value) (hu : (firedC p).set j u = firedC q) :
    FiredO (w.setCell ⟨g, i * 2 + j, none⟩ u) lo hi (.slice (some ⟨g, 0, none⟩) n cap) (ps.set i q) := by
  subst hn
  have := RowO.set h (i * 2 + j) u
  unfold FiredO
  rw [List.length_set]
  rw [Nat.mul_comm i 2] at this ⊢
  rw [flat_set 2 firedC firedC_len ps i j p q u hp hj hu] at this
  exact this
/-- An element of a row's own set anew, field by field. -/
theorem FiredO.store {w : World} {lo hi g cap n : Nat} {ps : List FiredD} (h : FiredO w lo hi (.slice (some ⟨g, 0, none⟩) n cap) ps) (hn : n = ps.length) {i : Nat} {p : FiredD} (hp : ps[i]? = some p) (q : FiredD) :
    (w.setCell ⟨g, i * 2, none⟩ (.int .i64 q.1)).cell? ⟨g, i * 2 + 1, none⟩ = some (.int .i64 p.2) ∧
    FiredO ((w.setCell ⟨g, i * 2, none⟩ (.int .i64 q.1)).setCell ⟨g, i * 2 + 1, none⟩ (.int .i64 q.2)) lo hi (.slice (some ⟨g, 0, none⟩) n cap) (ps.set i q) := by
  have hi' : i < ps.length := (List.getElem?_eq_some_iff.1 hp).1
  have h1 := h.set (by simpa using hn) hp 0 (by omega) (.int .i64 q.1) (q := (q.1, p.2)) rfl
  have g1 : (ps.set i (q.1, p.2))[i]? = some (q.1, p.2) := by simp [hi']
  have h2 := h1.set (by simpa using hn) g1 1 (by omega) (.int .i64 q.2) (q := q) rfl
  refine ⟨(h1.cells g1).2.1, by simpa using h2⟩

end Go.Proofs.Ythihgjcnjgpegaa
