/-
  Placed: as plain data; copied, held against one another.
-/
import Derived.Test.YtoimpkhgdpkhkaaDoorRows
import Derived.Test.YtoimpkhgdpkhkaaDoorBase
namespace Go.Proofs.YtoimpkhgdpkhkaaDoor
open Go.ChangeShapes Go.WideShapes Go.ChangeAt Go.RowKit
abbrev PlacedD := Int × Int × Int × Int
def placedC (p : PlacedD) : List Value := [.int .i64 p.1, .int .i64 p.2.1, .int .i64 p.2.2.1, .int .i64 p.2.2.2]
theorem placedC_len (p : PlacedD) : (placedC p).length = 4 := rfl
def placed0 : PlacedD := (0, 0, 0, 0)
def PlacedAt (w : World) (v : Value) (ps : List PlacedD) : Prop := RowAt w v ps.length (ps.flatMap placedC)
def PlacedO (w : World) (lo hi : Nat) (v : Value) (ps : List PlacedD) : Prop := RowO w lo hi 24 4 v ps.length (ps.flatMap placedC)
theorem PlacedAt.kept {w w' : World} {v : Value} {ps : List PlacedD} (h : PlacedAt w v ps) (k : Kept w w') : PlacedAt w' v ps := RowAt.kept h k
theorem PlacedO.kept {w w' : World} {lo hi : Nat} {v : Value} {ps : List PlacedD} (h : PlacedO w lo hi v ps) (k : Kept w w') : PlacedO w' lo hi v ps := RowO.kept h k
theorem PlacedO.but {w w' : World} {lo hi lo' hi' : Nat} {v : Value} {ps : List PlacedD} (h : PlacedO w lo hi v ps) (k : But lo' hi' w w') (ho : hi ≤ lo' ∨ hi' ≤ lo) : PlacedO w' lo hi v ps := RowO.but h k ho
theorem PlacedO.mono {w : World} {lo hi lo' hi' : Nat} {v : Value} {ps : List PlacedD} (h : PlacedO w lo hi v ps) (h1 : lo' ≤ lo) (h2 : hi ≤ hi') : PlacedO w lo' hi' v ps := RowO.mono h h1 h2
theorem PlacedO.low {w : World} {lo hi : Nat} {v : Value} {ps : List PlacedD} (h : PlacedO w lo hi v ps) : PlacedO w lo w.heap.size v ps := RowO.low h
theorem PlacedO.at {w : World} {lo hi : Nat} {v : Value} {ps : List PlacedD} (h : PlacedO w lo hi v ps) : PlacedAt w v ps := own_row h.1
theorem PlacedO.form {w : World} {lo hi : Nat} {v : Value} {ps : List PlacedD} (h : PlacedO w lo hi v ps) : ∃ ao cap, v = .slice ao ps.length cap := by
  obtain ⟨ao, cap, e, _⟩ := own_form h.1
  exact ⟨ao, cap, e⟩
theorem placed_get {w : World} {v : Value} {ps : List PlacedD} (h : PlacedAt w v ps) {i : Nat} {p : PlacedD} (hp : ps[i]? = some p) :
    ∃ b o cap, v = .slice (some ⟨b, o, none⟩) ps.length cap ∧ w.cell? ⟨b, o + i * 4, none⟩ = some (.int .i64 p.1) ∧ w.cell? ⟨b, o + i * 4 + 1, none⟩ = some (.int .i64 p.2.1) ∧ w.cell? ⟨b, o + i * 4 + 2, none⟩ = some (.int .i64 p.2.2.1) ∧ w.cell? ⟨b, o + i * 4 + 3, none⟩ = some (.int .i64 p.2.2.2) := by
  obtain ⟨b, o, cap, e, hc⟩ := row_get 4 placedC placedC_len (by omega) h hp
  exact ⟨b, o, cap, e, hc 0 _ rfl, hc 1 _ rfl, hc 2 _ rfl, hc 3 _ rfl⟩
theorem PlacedO.cells {w : World} {lo hi g cap n : Nat} {ps : List PlacedD} (h : PlacedO w lo hi (.slice (some ⟨g, 0, none⟩) n cap) ps) {i : Nat} {p : PlacedD} (hp : ps[i]? = some p) :
    w.cell? ⟨g, i * 4, none⟩ = some (.int .i64 p.1) ∧ w.cell? ⟨g, i * 4 + 1, none⟩ = some (.int .i64 p.2.1) ∧ w.cell? ⟨g, i * 4 + 2, none⟩ = some (.int .i64 p.2.2.1) ∧ w.cell? ⟨g, i * 4 + 3, none⟩ = some (.int .i64 p.2.2.2) ∧ ∀ o, w.frozen? ⟨g, o, none⟩ = false := by
  obtain ⟨hc, hf⟩ := own_get 4 placedC placedC_len (by omega) h hp
  exact ⟨hc 0 _ rfl, hc 1 _ rfl, hc 2 _ rfl, hc 3 _ rfl, hf⟩
theorem PlacedO.set {w : World} {lo hi g cap n : Nat} {ps : List PlacedD} (h : PlacedO w lo hi (.slice (some ⟨g, 0, none⟩) n cap) ps) (hn : n = ps.length) {i : Nat} {p q : PlacedD} (hp : ps[i]? = some p) (j : Nat) (hj : j < 4) (u : Value) (hu : (placedC p).set j u = placedC q) :
    PlacedO (w.setCell ⟨g, i * 4 + j, none⟩ u) lo hi (.slice (some ⟨g, 0, none⟩) n cap) (ps.set i q) := by
  subst hn
  have := RowO.set h (i * 4 + j) u
  unfold PlacedO
  rw [List.length_set]
  rw [Nat.mul_comm i 4] at this ⊢
  rw [flat_set 4 placedC placedC_len ps i j p q u hp hj hu] at this
  exact this
/-- An element of a row's own set anew, field by field. -/
theorem PlacedO.store {w : World} {lo hi g cap n : Nat} {ps : List PlacedD} (h : PlacedO w lo hi (.slice (some ⟨g, 0, none⟩) n cap) ps) (hn : n = ps.length) {i : Nat} {p : PlacedD} (hp : ps[i]? = some p) (q : PlacedD) :
    (w.setCell ⟨g, i * 4, none⟩ (.int .i64 q.1)).cell? ⟨g, i * 4 + 1, none⟩ = some (.int .i64 p.2.1) ∧
    ((w.setCell ⟨g, i * 4, none⟩ (.int .i64 q.1)).setCell ⟨g, i * 4 + 1, none⟩ (.int .i64 q.2.1)).cell? ⟨g, i * 4 + 2, none⟩ = some (.int .i64 p.2.2.1) ∧
    (((w.setCell ⟨g, i * 4, none⟩ (.int .i64 q.1)).setCell ⟨g, i * 4 + 1, none⟩ (.int .i64 q.2.1)).setCell ⟨g, i * 4 + 2, none⟩ (.int .i64 q.2.2.1)).cell? ⟨g, i * 4 + 3, none⟩ = some (.int .i64 p.2.2.2) ∧
    PlacedO ((((w.setCell ⟨g, i * 4, none⟩ (.int .i64 q.1)).setCell ⟨g, i * 4 + 1, none⟩ (.int .i64 q.2.1)).setCell ⟨g, i * 4 + 2, none⟩ (.int .i64 q.2.2.1)).setCell ⟨g, i * 4 + 3, none⟩ (.int .i64 q.2.2.2)) lo hi (.slice (some ⟨g, 0, none⟩) n cap) (ps.set i q) := by
  have hi' : i < ps.length := (List.getElem?_eq_some_iff.1 hp).1
  have h1 := h.set (by simpa using hn) hp 0 (by omega) (.int .i64 q.1) (q := (q.1, p.2)) rfl
  have g1 : (ps.set i (q.1, p.2))[i]? = some (q.1, p.2) := by simp [hi']
  have h2 := h1.set (by simpa using hn) g1 1 (by omega) (.int .i64 q.2.1) (q := (q.1, q.2.1, p.2.2)) rfl
  have g2 : ((ps.set i (q.1, p.2)).set i (q.1, q.2.1, p.2.2))[i]? = some (q.1, q.2.1, p.2.2) := by simp [hi']
  have h3 := h2.set (by simpa using hn) g2 2 (by omega) (.int .i64 q.2.2.1) (q := (q.1, q.2.1, q.2.2.1, p.2.2.2)) rfl
  have g3 : (((ps.set i (q.1, p.2)).set i (q.1, q.2.1, p.2.2)).set i (q.1, q.2.1, q.2.2.1, p.2.2.2))[i]? = some (q.1, q.2.1, q.2.2.1, p.2.2.2) := by simp [hi']
  have h4 := h3.set (by simpa using hn) g3 3 (by omega) (.int .i64 q.2.2.2) (q := q) rfl
  refine ⟨(h1.cells g1).2.1, (h2.cells g2).2.2.1, (h3.cells g3).2.2.2.1, by simpa using h4⟩

theorem toPlaced (f0 : Int) (f1 : Int) (f2 : Int) (f3 : Int) (w : World) :
    Calls Tryd.prog 21 #[.agg #[.int .i64 f0, .int .i64 f1, .int .i64 f2, .int .i64 f3]] w fun e w' => e = .returned (.agg #[.int .i64 f0, .int .i64 f1, .int .i64 f2, .int .i64 f3]) ∧ Kept w w' := by
  go_enter Tryd.func21, Tryd.ntmps21
  go_wp2
  refine bodyPost_ret (v := .agg #[.int .i64 f0, .int .i64 f1, .int .i64 f2, .int .i64 f3]) (by simp [results, Tryd.results21, go_sem]) rfl ?_
  exact ⟨rfl, (((But.refl _ _ _).alloc _).alloc _).alloc _⟩

theorem eqPlaced (f0 : Int) (f1 : Int) (f2 : Int) (f3 : Int) (w : World) :
    Calls Tryd.prog 45 #[.agg #[.int .i64 f0, .int .i64 f1, .int .i64 f2, .int .i64 f3], .agg #[.int .i64 f0, .int .i64 f1, .int .i64 f2, .int .i64 f3]] w fun e w' => e = .returned (.bool true) ∧ Kept w w' := by
  go_enter Tryd.func45, Tryd.ntmps45
  go_wp2
  go_ret
  exact ⟨rfl, ((But.refl _ _ _).alloc _).alloc _⟩

end Go.Proofs.YtoimpkhgdpkhkaaDoor
