/-
  Marks of a clip as plain data, and how lists of them lie in memory.
-/
import Derived.Test.YtpnplfngglfpoaaBase
namespace Go.Proofs.Ytpnplfngglfpoaa
open Go.ChangeShapes Go.WideShapes Go.ChangeAt Go.RowKit
abbrev MarkD := Int × ByteArray
def markC (p : MarkD) : List Value := [.int .i64 p.1, .string p.2]
theorem markC_len (p : MarkD) : (markC p).length = 2 := rfl
def mark0 : MarkD := (0, ByteArray.empty)
def MarkAt (w : World) (v : Value) (ps : List MarkD) : Prop := RowAt w v ps.length (ps.flatMap markC)
def MarkO (w : World) (lo hi : Nat) (v : Value) (ps : List MarkD) : Prop := RowO w lo hi 98 2 v ps.length (ps.flatMap markC)
theorem MarkAt.kept {w w' : World} {v : Value} {ps : List MarkD} (h : MarkAt w v ps) (k : Kept w w') : MarkAt w' v ps := RowAt.kept h k
theorem MarkO.kept {w w' : World} {lo hi : Nat} {v : Value} {ps : List MarkD} (h : MarkO w lo hi v ps) (k : Kept w w') : MarkO w' lo hi v ps := RowO.kept h k
theorem MarkO.but {w w' : World} {lo hi lo' hi' : Nat} {v : Value} {ps : List MarkD} (h : MarkO w lo hi v ps) (k : But lo' hi' w w') (ho : hi ≤ lo' ∨ hi' ≤ lo) : MarkO w' lo hi v ps := RowO.but h k ho
theorem MarkO.mono {w : World} {lo hi lo' hi' : Nat} {v : Value} {ps : List MarkD} (h : MarkO w lo hi v ps) (h1 : lo' ≤ lo) (h2 : hi ≤ hi') : MarkO w lo' hi' v ps := RowO.mono h h1 h2
theorem MarkO.low {w : World} {lo hi : Nat} {v : Value} {ps : List MarkD} (h : MarkO w lo hi v ps) : MarkO w lo w.heap.size v ps := RowO.low h
theorem MarkO.at {w : World} {lo hi : Nat} {v : Value} {ps : List MarkD} (h : MarkO w lo hi v ps) : MarkAt w v ps := own_row h.1
theorem MarkO.form {w : World} {lo hi : Nat} {v : Value} {ps : List MarkD} (h : MarkO w lo hi v ps) : ∃ ao cap, v = .slice ao ps.length cap := by
  obtain ⟨ao, cap, e, _⟩ := own_form h.1
  exact ⟨ao, cap, e⟩
theorem mark_get {w : World} {v : Value} {ps : List MarkD} (h : MarkAt w v ps) {i : Nat} {p : MarkD} (hp : ps[i]? = some p) :
    ∃ b o cap, v = .slice (some ⟨b, o, none⟩) ps.length cap ∧ w.cell? ⟨b, o + i * 2, none⟩ = some (.int .i64 p.1) ∧ w.cell? ⟨b, o + i * 2 + 1, none⟩ = some (.string p.2) := by
  obtain ⟨b, o, cap, e, hc⟩ := row_get 2 markC markC_len (by omega) h hp
  exact ⟨b, o, cap, e, hc 0 _ rfl, hc 1 _ rfl⟩
theorem MarkO.cells {w : World} {lo hi g cap n : Nat} {ps : List MarkD} (h : MarkO w lo hi (.slice (some ⟨g, 0, none⟩) n cap) ps) {i : Nat} {p : MarkD} (hp : ps[i]? = some p) :
    w.cell? ⟨g, i * 2, none⟩ = some (.int .i64 p.1) ∧ w.cell? ⟨g, i * 2 + 1, none⟩ = some (.string p.2) ∧ ∀ o, w.frozen? ⟨g, o, none⟩ = false := by
  obtain ⟨hc, hf⟩ := own_get 2 markC markC_len (by omega) h hp
  exact ⟨hc 0 _ rfl, hc 1 _ rfl, hf⟩
theorem MarkO.set {w : World} {lo hi g cap n : Nat} {ps : List MarkD} (h : MarkO w lo hi (.slice (some ⟨g, 0, none⟩) n cap) ps) (hn : n = ps.length) {i : Nat} {p q : MarkD} (hp : ps[i]? = some p) (j : Nat) (hj : j < 2) (u : Value) (hu : (markC p).set j u = markC q) :
    MarkO (w.setCell ⟨g, i * 2 + j, none⟩ u) lo hi (.slice (some ⟨g, 0, none⟩) n cap) (ps.set i q) := by
  subst hn
  have := RowO.set h (i * 2 + j) u
  unfold MarkO
  rw [List.length_set]
  rw [Nat.mul_comm i 2] at this ⊢
  rw [flat_set 2 markC markC_len ps i j p q u hp hj hu] at this
  exact this
/-- An element of a row's own set anew, field by field. -/
theorem MarkO.store {w : World} {lo hi g cap n : Nat} {ps : List MarkD} (h : MarkO w lo hi (.slice (some ⟨g, 0, none⟩) n cap) ps) (hn : n = ps.length) {i : Nat} {p : MarkD} (hp : ps[i]? = some p) (q : MarkD) :
    (w.setCell ⟨g, i * 2, none⟩ (.int .i64 q.1)).cell? ⟨g, i * 2 + 1, none⟩ = some (.string p.2) ∧
    MarkO ((w.setCell ⟨g, i * 2, none⟩ (.int .i64 q.1)).setCell ⟨g, i * 2 + 1, none⟩ (.string q.2)) lo hi (.slice (some ⟨g, 0, none⟩) n cap) (ps.set i q) := by
  have hi' : i < ps.length := (List.getElem?_eq_some_iff.1 hp).1
  have h1 := h.set (by simpa using hn) hp 0 (by omega) (.int .i64 q.1) (q := (q.1, p.2)) rfl
  have g1 : (ps.set i (q.1, p.2))[i]? = some (q.1, p.2) := by simp [hi']
  have h2 := h1.set (by simpa using hn) g1 1 (by omega) (.string q.2) (q := q) rfl
  refine ⟨(h1.cells g1).2.1, by simpa using h2⟩

end Go.Proofs.Ytpnplfngglfpoaa
