/-
  Things: as plain data, and how lists of them lie in memory.
-/
import Derived.Test.YtaadlhcpgjibeaaDoorRows
import Derived.Test.YtaadlhcpgjibeaaDoorBase
namespace Go.Proofs.YtaadlhcpgjibeaaDoor
open Go.ChangeShapes Go.WideShapes Go.ChangeAt Go.RowKit
abbrev ThingD := Int × Int × Int × Int
def thingC (p : ThingD) : List Value := [.int .i64 p.1, .int .i64 p.2.1, .int .i64 p.2.2.1, .int .i64 p.2.2.2]
theorem thingC_len (p : ThingD) : (thingC p).length = 4 := rfl
def thing0 : ThingD := (0, 0, 0, 0)
def ThingAt (w : World) (v : Value) (ps : List ThingD) : Prop := RowAt w v ps.length (ps.flatMap thingC)
def ThingO (w : World) (lo hi : Nat) (v : Value) (ps : List ThingD) : Prop := RowO w lo hi 57 4 v ps.length (ps.flatMap thingC)
theorem ThingAt.kept {w w' : World} {v : Value} {ps : List ThingD} (h : ThingAt w v ps) (k : Kept w w') : ThingAt w' v ps := RowAt.kept h k
theorem ThingO.kept {w w' : World} {lo hi : Nat} {v : Value} {ps : List ThingD} (h : ThingO w lo hi v ps) (k : Kept w w') : ThingO w' lo hi v ps := RowO.kept h k
theorem ThingO.but {w w' : World} {lo hi lo' hi' : Nat} {v : Value} {ps : List ThingD} (h : ThingO w lo hi v ps) (k : But lo' hi' w w') (ho : hi ≤ lo' ∨ hi' ≤ lo) : ThingO w' lo hi v ps := RowO.but h k ho
theorem ThingO.mono {w : World} {lo hi lo' hi' : Nat} {v : Value} {ps : List ThingD} (h : ThingO w lo hi v ps) (h1 : lo' ≤ lo) (h2 : hi ≤ hi') : ThingO w lo' hi' v ps := RowO.mono h h1 h2
theorem ThingO.low {w : World} {lo hi : Nat} {v : Value} {ps : List ThingD} (h : ThingO w lo hi v ps) : ThingO w lo w.heap.size v ps := RowO.low h
theorem ThingO.at {w : World} {lo hi : Nat} {v : Value} {ps : List ThingD} (h : ThingO w lo hi v ps) : ThingAt w v ps := own_row h.1
theorem ThingO.form {w : World} {lo hi : Nat} {v : Value} {ps : List ThingD} (h : ThingO w lo hi v ps) : ∃ ao cap, v = .slice ao ps.length cap := by
  obtain ⟨ao, cap, e, _⟩ := own_form h.1
  exact ⟨ao, cap, e⟩
theorem thing_get {w : World} {v : Value} {ps : List ThingD} (h : ThingAt w v ps) {i : Nat} {p : ThingD} (hp : ps[i]? = some p) :
    ∃ b o cap, v = .slice (some ⟨b, o, none⟩) ps.length cap ∧ w.cell? ⟨b, o + i * 4, none⟩ = some (.int .i64 p.1) ∧ w.cell? ⟨b, o + i * 4 + 1, none⟩ = some (.int .i64 p.2.1) ∧ w.cell? ⟨b, o + i * 4 + 2, none⟩ = some (.int .i64 p.2.2.1) ∧ w.cell? ⟨b, o + i * 4 + 3, none⟩ = some (.int .i64 p.2.2.2) := by
  obtain ⟨b, o, cap, e, hc⟩ := row_get 4 thingC thingC_len (by omega) h hp
  exact ⟨b, o, cap, e, hc 0 _ rfl, hc 1 _ rfl, hc 2 _ rfl, hc 3 _ rfl⟩
theorem ThingO.cells {w : World} {lo hi g cap n : Nat} {ps : List ThingD} (h : ThingO w lo hi (.slice (some ⟨g, 0, none⟩) n cap) ps) {i : Nat} {p : ThingD} (hp : ps[i]? = some p) :
    w.cell? ⟨g, i * 4, none⟩ = some (.int .i64 p.1) ∧ w.cell? ⟨g, i * 4 + 1, none⟩ = some (.int .i64 p.2.1) ∧ w.cell? ⟨g, i * 4 + 2, none⟩ = some (.int .i64 p.2.2.1) ∧ w.cell? ⟨g, i * 4 + 3, none⟩ = some (.int .i64 p.2.2.2) ∧ ∀ o, w.frozen? ⟨g, o, none⟩ = false := by
  obtain ⟨hc, hf⟩ := own_get 4 thingC thingC_len (by omega) h hp
  exact ⟨hc 0 _ rfl, hc 1 _ rfl, hc 2 _ rfl, hc 3 _ rfl, hf⟩
theorem ThingO.set {w : World} {lo hi g cap n : Nat} {ps : List ThingD} (h : ThingO w lo hi (.slice (some ⟨g, 0, none⟩) n cap) ps) (hn : n = ps.length) {i : Nat} {p q : ThingD} (hp : ps[i]? = some p) (j : Nat) (hj : j < 4) (u : Value) (hu : (thingC p).set j u = thingC q) :
    ThingO (w.setCell ⟨g, i * 4 + j, none⟩ u) lo hi (.slice (some ⟨g, 0, none⟩) n cap) (ps.set i q) := by
  subst hn
  have := RowO.set h (i * 4 + j) u
  unfold ThingO
  rw [List.length_set]
  rw [Nat.mul_comm i 4] at this ⊢
  rw [flat_set 4 thingC thingC_len ps i j p q u hp hj hu] at this
  exact this
/-- An element of a row's own set anew, field by field. -/
theorem ThingO.store {w : World} {lo hi g cap n : Nat} {ps : List ThingD} (h : ThingO w lo hi (.slice (some ⟨g, 0, none⟩) n cap) ps) (hn : n = ps.length) {i : Nat} {p : ThingD} (hp : ps[i]? = some p) (q : ThingD) :
    (w.setCell ⟨g, i * 4, none⟩ (.int .i64 q.1)).cell? ⟨g, i * 4 + 1, none⟩ = some (.int .i64 p.2.1) ∧
    ((w.setCell ⟨g, i * 4, none⟩ (.int .i64 q.1)).setCell ⟨g, i * 4 + 1, none⟩ (.int .i64 q.2.1)).cell? ⟨g, i * 4 + 2, none⟩ = some (.int .i64 p.2.2.1) ∧
    (((w.setCell ⟨g, i * 4, none⟩ (.int .i64 q.1)).setCell ⟨g, i * 4 + 1, none⟩ (.int .i64 q.2.1)).setCell ⟨g, i * 4 + 2, none⟩ (.int .i64 q.2.2.1)).cell? ⟨g, i * 4 + 3, none⟩ = some (.int .i64 p.2.2.2) ∧
    ThingO ((((w.setCell ⟨g, i * 4, none⟩ (.int .i64 q.1)).setCell ⟨g, i * 4 + 1, none⟩ (.int .i64 q.2.1)).setCell ⟨g, i * 4 + 2, none⟩ (.int .i64 q.2.2.1)).setCell ⟨g, i * 4 + 3, none⟩ (.int .i64 q.2.2.2)) lo hi (.slice (some ⟨g, 0, none⟩) n cap) (ps.set i q) := by
  have hi' : i < ps.length := (List.getElem?_eq_some_iff.1 hp).1
  have h1 := h.set (by simpa using hn) hp 0 (by omega) (.int .i64 q.1) (q := (q.1, p.2)) rfl
  have g1 : (ps.set i (q.1, p.2))[i]? = some (q.1, p.2) := by simp [hi']
  have h2 := h1.set (by simpa using hn) g1 1 (by omega) (.int .i64 q.2.1) (q := (q.1, q.2.1, p.2.2)) rfl
  have g2 : ((ps.set i (q.1, p.2)).set i (q.1, q.2.1, p.2.2))[i]? = some (q.1, q.2.1, p.2.2) := by simp [hi']
  have h3 := h2.set (by simpa using hn) g2 2 (by omega) (.int .i64 q.2.2.1) (q := (q.1, q.2.1, q.2.2.1, p.2.2.2)) rfl
  have g3 : (((ps.set i (q.1, p.2)).set i (q.1, q.2.1, p.2.2)).set i (q.1, q.2.1, q.2.2.1, p.2.2.2))[i]? = some (q.1, q.2.1, q.2.2.1, p.2.2.2) := by simp [hi']
  have h4 := h3.set (by simpa using hn) g3 3 (by omega) (.int .i64 q.2.2.2) (q := q) rfl
  refine ⟨(h1.cells g1).2.1, (h2.cells g2).2.2.1, (h3.cells g3).2.2.2.1, by simpa using h4⟩

end Go.Proofs.YtaadlhcpgjibeaaDoor
