/-
  Values: as plain data, and how lists of them lie in memory.
-/
import Derived.Test.YtklgjhemcofhhaaDoorRows
import Derived.Test.YtklgjhemcofhhaaDoorBase
namespace Go.Proofs.YtklgjhemcofhhaaDoor
open Go.ChangeShapes Go.WideShapes Go.ChangeAt Go.RowKit
abbrev ValD := ByteArray × Int × ByteArray
def valC (p : ValD) : List Value := [.string p.1, .int .i64 p.2.1, .string p.2.2]
theorem valC_len (p : ValD) : (valC p).length = 3 := rfl
def val0 : ValD := (ByteArray.empty, 0, ByteArray.empty)
def ValAt (w : World) (v : Value) (ps : List ValD) : Prop := RowAt w v ps.length (ps.flatMap valC)
def ValO (w : World) (lo hi : Nat) (v : Value) (ps : List ValD) : Prop := RowO w lo hi 53 3 v ps.length (ps.flatMap valC)
theorem ValAt.kept {w w' : World} {v : Value} {ps : List ValD} (h : ValAt w v ps) (k : Kept w w') : ValAt w' v ps := RowAt.kept h k
theorem ValO.kept {w w' : World} {lo hi : Nat} {v : Value} {ps : List ValD} (h : ValO w lo hi v ps) (k : Kept w w') : ValO w' lo hi v ps := RowO.kept h k
theorem ValO.but {w w' : World} {lo hi lo' hi' : Nat} {v : Value} {ps : List ValD} (h : ValO w lo hi v ps) (k : But lo' hi' w w') (ho : hi ≤ lo' ∨ hi' ≤ lo) : ValO w' lo hi v ps := RowO.but h k ho
theorem ValO.mono {w : World} {lo hi lo' hi' : Nat} {v : Value} {ps : List ValD} (h : ValO w lo hi v ps) (h1 : lo' ≤ lo) (h2 : hi ≤ hi') : ValO w lo' hi' v ps := RowO.mono h h1 h2
theorem ValO.low {w : World} {lo hi : Nat} {v : Value} {ps : List ValD} (h : ValO w lo hi v ps) : ValO w lo w.heap.size v ps := RowO.low h
theorem ValO.at {w : World} {lo hi : Nat} {v : Value} {ps : List ValD} (h : ValO w lo hi v ps) : ValAt w v ps := own_row h.1
theorem ValO.form {w : World} {lo hi : Nat} {v : Value} {ps : List ValD} (h : ValO w lo hi v ps) : ∃ ao cap, v = .slice ao ps.length cap := by
  obtain ⟨ao, cap, e, _⟩ := own_form h.1
  exact ⟨ao, cap, e⟩
theorem val_get {w : World} {v : Value} {ps : List ValD} (h : ValAt w v ps) {i : Nat} {p : ValD} (hp : ps[i]? = some p) :
    ∃ b o cap, v = .slice (some ⟨b, o, none⟩) ps.length cap ∧ w.cell? ⟨b, o + i * 3, none⟩ = some (.string p.1) ∧ w.cell? ⟨b, o + i * 3 + 1, none⟩ = some (.int .i64 p.2.1) ∧ w.cell? ⟨b, o + i * 3 + 2, none⟩ = some (.string p.2.2) := by
  obtain ⟨b, o, cap, e, hc⟩ := row_get 3 valC valC_len (by omega) h hp
  exact ⟨b, o, cap, e, hc 0 _ rfl, hc 1 _ rfl, hc 2 _ rfl⟩
theorem ValO.cells {w : World} {lo hi g cap n : Nat} {ps : List ValD} (h : ValO w lo hi (.slice (some ⟨g, 0, none⟩) n cap) ps) {i : Nat} {p : ValD} (hp : ps[i]? = some p) :
    w.cell? ⟨g, i * 3, none⟩ = some (.string p.1) ∧ w.cell? ⟨g, i * 3 + 1, none⟩ = some (.int .i64 p.2.1) ∧ w.cell? ⟨g, i * 3 + 2, none⟩ = some (.string p.2.2) ∧ ∀ o, w.frozen? ⟨g, o, none⟩ = false := by
  obtain ⟨hc, hf⟩ := own_get 3 valC valC_len (by omega) h hp
  exact ⟨hc 0 _ rfl, hc 1 _ rfl, hc 2 _ rfl, hf⟩
theorem ValO.set {w : World} {lo hi g cap n : Nat} {ps : List ValD} (h : ValO w lo hi (.slice (some ⟨g, 0, none⟩) n cap) ps) (hn : n = ps.length) {i : Nat} {p q : ValD} (hp : ps[i]? = some p) (j : Nat) (hj : j < 3) (u : Value) (hu : (valC p).set j u = valC q) :
    ValO (w.setCell ⟨g, i * 3 + j, none⟩ u) lo hi (.slice (some ⟨g, 0, none⟩) n cap) (ps.set i q) := by
  subst hn
  have := RowO.set h (i * 3 + j) u
  unfold ValO
  rw [List.length_set]
  rw [Nat.mul_comm i 3] at this ⊢
  rw [flat_set 3 valC valC_len ps i j p q u hp hj hu] at this
  exact this
/-- An element of a row's own set anew, field by field. -/
theorem ValO.store {w : World} {lo hi g cap n : Nat} {ps : List ValD} (h : ValO w lo hi (.slice (some ⟨g, 0, none⟩) n cap) ps) (hn : n = ps.length) {i : Nat} {p : ValD} (hp : ps[i]? = some p) (q : ValD) :
    (w.setCell ⟨g, i * 3, none⟩ (.string q.1)).cell? ⟨g, i * 3 + 1, none⟩ = some (.int .i64 p.2.1) ∧
    ((w.setCell ⟨g, i * 3, none⟩ (.string q.1)).setCell ⟨g, i * 3 + 1, none⟩ (.int .i64 q.2.1)).cell? ⟨g, i * 3 + 2, none⟩ = some (.string p.2.2) ∧
    ValO (((w.setCell ⟨g, i * 3, none⟩ (.string q.1)).setCell ⟨g, i * 3 + 1, none⟩ (.int .i64 q.2.1)).setCell ⟨g, i * 3 + 2, none⟩ (.string q.2.2)) lo hi (.slice (some ⟨g, 0, none⟩) n cap) (ps.set i q) := by
  have hi' : i < ps.length := (List.getElem?_eq_some_iff.1 hp).1
  have h1 := h.set (by simpa using hn) hp 0 (by omega) (.string q.1) (q := (q.1, p.2)) rfl
  have g1 : (ps.set i (q.1, p.2))[i]? = some (q.1, p.2) := by simp [hi']
  have h2 := h1.set (by simpa using hn) g1 1 (by omega) (.int .i64 q.2.1) (q := (q.1, q.2.1, p.2.2)) rfl
  have g2 : ((ps.set i (q.1, p.2)).set i (q.1, q.2.1, p.2.2))[i]? = some (q.1, q.2.1, p.2.2) := by simp [hi']
  have h3 := h2.set (by simpa using hn) g2 2 (by omega) (.string q.2.2) (q := q) rfl
  refine ⟨(h1.cells g1).2.1, (h2.cells g2).2.2.1, by simpa using h3⟩

end Go.Proofs.YtklgjhemcofhhaaDoor
