/-
  Places as plain data, and how lists of them lie in memory.
-/
import Derived.Test.YthohgehhoogpnaaBase
namespace Go.Proofs.Ythohgehhoogpnaa
open Go.ChangeShapes Go.WideShapes Go.ChangeAt Go.RowKit
abbrev Spot2D := Int × Int
def spot2C (p : Spot2D) : List Value := [.int .i64 p.1, .int .i64 p.2]
theorem spot2C_len (p : Spot2D) : (spot2C p).length = 2 := rfl
def spot20 : Spot2D := (0, 0)
def Spot2At (w : World) (v : Value) (ps : List Spot2D) : Prop := RowAt w v ps.length (ps.flatMap spot2C)
def Spot2O (w : World) (lo hi : Nat) (v : Value) (ps : List Spot2D) : Prop := RowO w lo hi 29 2 v ps.length (ps.flatMap spot2C)
theorem Spot2At.kept {w w' : World} {v : Value} {ps : List Spot2D} (h : Spot2At w v ps) (k : Kept w w') : Spot2At w' v ps := RowAt.kept h k
theorem Spot2O.kept {w w' : World} {lo hi : Nat} {v : Value} {ps : List Spot2D} (h : Spot2O w lo hi v ps) (k : Kept w w') : Spot2O w' lo hi v ps := RowO.kept h k
theorem Spot2O.but {w w' : World} {lo hi lo' hi' : Nat} {v : Value} {ps : List Spot2D} (h : Spot2O w lo hi v ps) (k : But lo' hi' w w') (ho : hi ≤ lo' ∨ hi' ≤ lo) : Spot2O w' lo hi v ps := RowO.but h k ho
theorem Spot2O.mono {w : World} {lo hi lo' hi' : Nat} {v : Value} {ps : List Spot2D} (h : Spot2O w lo hi v ps) (h1 : lo' ≤ lo) (h2 : hi ≤ hi') : Spot2O w lo' hi' v ps := RowO.mono h h1 h2
theorem Spot2O.low {w : World} {lo hi : Nat} {v : Value} {ps : List Spot2D} (h : Spot2O w lo hi v ps) : Spot2O w lo w.heap.size v ps := RowO.low h
theorem Spot2O.at {w : World} {lo hi : Nat} {v : Value} {ps : List Spot2D} (h : Spot2O w lo hi v ps) : Spot2At w v ps := own_row h.1
theorem Spot2O.form {w : World} {lo hi : Nat} {v : Value} {ps : List Spot2D} (h : Spot2O w lo hi v ps) : ∃ ao cap, v = .slice ao ps.length cap := by
  obtain ⟨ao, cap, e, _⟩ := own_form h.1
  exact ⟨ao, cap, e⟩
theorem spot2_get {w : World} {v : Value} {ps : List Spot2D} (h : Spot2At w v ps) {i : Nat} {p : Spot2D} (hp : ps[i]? = some p) :
    ∃ b o cap, v = .slice (some ⟨b, o, none⟩) ps.length cap ∧ w.cell? ⟨b, o + i * 2, none⟩ = some (.int .i64 p.1) ∧ w.cell? ⟨b, o + i * 2 + 1, none⟩ = some (.int .i64 p.2) := by
  obtain ⟨b, o, cap, e, hc⟩ := row_get 2 spot2C spot2C_len (by omega) h hp
  exact ⟨b, o, cap, e, hc 0 _ rfl, hc 1 _ rfl⟩
theorem Spot2O.cells {w : World} {lo hi g cap n : Nat} {ps : List Spot2D} (h : Spot2O w lo hi (.slice (some ⟨g, 0, none⟩) n cap) ps) {i : Nat} {p : Spot2D} (hp : ps[i]? = some p) :
    w.cell? ⟨g, i * 2, none⟩ = some (.int .i64 p.1) ∧ w.cell? ⟨g, i * 2 + 1, none⟩ = some (.int .i64 p.2) ∧ ∀ o, w.frozen? ⟨g, o, none⟩ = false := by
  obtain ⟨hc, hf⟩ := own_get 2 spot2C spot2C_len (by omega) h hp
  exact ⟨hc 0 _ rfl, hc 1 _ rfl, hf⟩
theorem Spot2O.set {w : World} {lo hi g cap n : Nat} {ps : List Spot2D} (h : Spot2O w lo hi (.slice (some ⟨g, 0, none⟩) n cap) ps) (hn : n = ps.length) {i : Nat} {p q : Spot2D} (hp : ps[i]? = some p) (j : Nat) (hj : j < 2) (u : Value) (hu : (spot2C p).set j u = spot2C q) :
    Spot2O (w.setCell ⟨g, i * 2 + j, none⟩ u) lo hi (.slice (some ⟨g, 0, none⟩) n cap) (ps.set i q) := by
  subst hn
  have := RowO.set h (i * 2 + j) u
  unfold Spot2O
  rw [List.length_set]
  rw [Nat.mul_comm i 2] at this ⊢
  rw [flat_set 2 spot2C spot2C_len ps i j p q u hp hj hu] at this
  exact this
/-- An element of a row's own set anew, field by field. -/
theorem Spot2O.store {w : World} {lo hi g cap n : Nat} {ps : List Spot2D} (h : Spot2O w lo hi (.slice (some ⟨g, 0, none⟩) n cap) ps) (hn : n = ps.length) {i : Nat} {p : Spot2D} (hp : ps[i]? = some p) (q : Spot2D) :
    (w.setCell ⟨g, i * 2, none⟩ (.int .i64 q.1)).cell? ⟨g, i * 2 + 1, none⟩ = some (.int .i64 p.2) ∧
    Spot2O ((w.setCell ⟨g, i * 2, none⟩ (.int .i64 q.1)).setCell ⟨g, i * 2 + 1, none⟩ (.int .i64 q.2)) lo hi (.slice (some ⟨g, 0, none⟩) n cap) (ps.set i q) := by
  have hi' : i < ps.length := (List.getElem?_eq_some_iff.1 hp).1
  have h1 := h.set (by simpa using hn) hp 0 (by omega) (.int .i64 q.1) (q := (q.1, p.2)) rfl
  have g1 : (ps.set i (q.1, p.2))[i]? = some (q.1, p.2) := by simp [hi']
  have h2 := h1.set (by simpa using hn) g1 1 (by omega) (.int .i64 q.2) (q := q) rfl
  refine ⟨(h1.cells g1).2.1, by simpa using h2⟩

end Go.Proofs.Ythohgehhoogpnaa
