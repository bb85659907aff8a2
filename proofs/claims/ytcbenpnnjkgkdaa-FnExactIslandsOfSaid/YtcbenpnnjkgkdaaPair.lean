/-
  Pairs as plain data.
-/
import Derived.Test.YtcbenpnnjkgkdaaBase
namespace Go.Proofs.Ytcbenpnnjkgkdaa
open Go.ChangeShapes Go.WideShapes Go.ChangeAt Go.RowKit
abbrev PairD := Int × Int
def pairC (p : PairD) : List Value := [.int .i64 p.1, .int .i64 p.2]
theorem pairC_len (p : PairD) : (pairC p).length = 2 := rfl
def pair0 : PairD := (0, 0)
def PairAt (w : World) (v : Value) (ps : List PairD) : Prop := RowAt w v ps.length (ps.flatMap pairC)
def PairO (w : World) (lo hi : Nat) (v : Value) (ps : List PairD) : Prop := RowO w lo hi 37 2 v ps.length (ps.flatMap pairC)
theorem PairAt.kept {w w' : World} {v : Value} {ps : List PairD} (h : PairAt w v ps) (k : Kept w w') : PairAt w' v ps := RowAt.kept h k
theorem PairO.kept {w w' : World} {lo hi : Nat} {v : Value} {ps : List PairD} (h : PairO w lo hi v ps) (k : Kept w w') : PairO w' lo hi v ps := RowO.kept h k
theorem PairO.but {w w' : World} {lo hi lo' hi' : Nat} {v : Value} {ps : List PairD} (h : PairO w lo hi v ps) (k : But lo' hi' w w') (ho : hi ≤ lo' ∨ hi' ≤ lo) : PairO w' lo hi v ps := RowO.but h k ho
theorem PairO.mono {w : World} {lo hi lo' hi' : Nat} {v : Value} {ps : List PairD} (h : PairO w lo hi v ps) (h1 : lo' ≤ lo) (h2 : hi ≤ hi') : PairO w lo' hi' v ps := RowO.mono h h1 h2
theorem PairO.low {w : World} {lo hi : Nat} {v : Value} {ps : List PairD} (h : PairO w lo hi v ps) : PairO w lo w.heap.size v ps := RowO.low h
theorem PairO.at {w : World} {lo hi : Nat} {v : Value} {ps : List PairD} (h : PairO w lo hi v ps) : PairAt w v ps := own_row h.1
theorem PairO.form {w : World} {lo hi : Nat} {v : Value} {ps : List PairD} (h : PairO w lo hi v ps) : ∃ ao cap, v = .slice ao ps.length cap := by
  obtain ⟨ao, cap, e, _⟩ := own_form h.1
  exact ⟨ao, cap, e⟩
theorem pair_get {w : World} {v : Value} {ps : List PairD} (h : PairAt w v ps) {i : Nat} {p : PairD} (hp : ps[i]? = some p) :
    ∃ b o cap, v = .slice (some ⟨b, o, none⟩) ps.length cap ∧ w.cell? ⟨b, o + i * 2, none⟩ = some (.int .i64 p.1) ∧ w.cell? ⟨b, o + i * 2 + 1, none⟩ = some (.int .i64 p.2) := by
  obtain ⟨b, o, cap, e, hc⟩ := row_get 2 pairC pairC_len (by omega) h hp
  exact ⟨b, o, cap, e, hc 0 _ rfl, hc 1 _ rfl⟩
theorem PairO.cells {w : World} {lo hi g cap n : Nat} {ps : List PairD} (h : PairO w lo hi (.slice (some ⟨g, 0, none⟩) n cap) ps) {i : Nat} {p : PairD} (hp : ps[i]? = some p) :
    w.cell? ⟨g, i * 2, none⟩ = some (.int .i64 p.1) ∧ w.cell? ⟨g, i * 2 + 1, none⟩ = some (.int .i64 p.2) ∧ ∀ o, w.frozen? ⟨g, o, none⟩ = false := by
  obtain ⟨hc, hf⟩ := own_get 2 pairC pairC_len (by omega) h hp
  exact ⟨hc 0 _ rfl, hc 1 _ rfl, hf⟩
theorem PairO.set {w : World} {lo hi g cap n : Nat} {ps : List PairD} (h : PairO w lo hi (.slice (some ⟨g, 0, none⟩) n cap) ps) (hn : n = ps.length) {i : Nat} {p q : PairD} (hp : ps[i]? = some p) (j : Nat) (hj : j < 2) (u : Value) (hu : (pairC p).set j u = pairC q) :
    PairO (w.setCell ⟨g, i * 2 + j, none⟩ u) lo hi (.slice (some ⟨g, 0, none⟩) n cap) (ps.set i q) := by
  subst hn
  have := RowO.set h (i * 2 + j) u
  unfold PairO
  rw [List.length_set]
  rw [Nat.mul_comm i 2] at this ⊢
  rw [flat_set 2 pairC pairC_len ps i j p q u hp hj hu] at this
  exact this
/-- An element of a row's own set anew, field by field. -/
theorem PairO.store {w : World} {lo hi g cap n : Nat} {ps : List PairD} (h : PairO w lo hi (.slice (some ⟨g, 0, none⟩) n cap) ps) (hn : n = ps.length) {i : Nat} {p : PairD} (hp : ps[i]? = some p) (q : PairD) :
    (w.setCell ⟨g, i * 2, none⟩ (.int .i64 q.1)).cell? ⟨g, i * 2 + 1, none⟩ = some (.int .i64 p.2) ∧
    PairO ((w.setCell ⟨g, i * 2, none⟩ (.int .i64 q.1)).setCell ⟨g, i * 2 + 1, none⟩ (.int .i64 q.2)) lo hi (.slice (some ⟨g, 0, none⟩) n cap) (ps.set i q) := by
  have hi' : i < ps.length := (List.getElem?_eq_some_iff.1 hp).1
  have h1 := h.set (by simpa using hn) hp 0 (by omega) (.int .i64 q.1) (q := (q.1, p.2)) rfl
  have g1 : (ps.set i (q.1, p.2))[i]? = some (q.1, p.2) := by simp [hi']
  have h2 := h1.set (by simpa using hn) g1 1 (by omega) (.int .i64 q.2) (q := q) rfl
  refine ⟨(h1.cells g1).2.1, by simpa using h2⟩

end Go.Proofs.Ytcbenpnnjkgkdaa
