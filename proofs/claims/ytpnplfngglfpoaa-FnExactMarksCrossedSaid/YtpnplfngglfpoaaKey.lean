/-
  Keys as plain data, and how lists of them lie in memory.
-/
import Derived.Test.YtpnplfngglfpoaaBase
namespace Go.Proofs.Ytpnplfngglfpoaa
open Go.ChangeShapes Go.WideShapes Go.ChangeAt Go.RowKit
abbrev KeyD := Int × Int
def keyC (p : KeyD) : List Value := [.int .i64 p.1, .int .i64 p.2]
theorem keyC_len (p : KeyD) : (keyC p).length = 2 := rfl
def key0 : KeyD := (0, 0)
def KeyAt (w : World) (v : Value) (ps : List KeyD) : Prop := RowAt w v ps.length (ps.flatMap keyC)
def KeyO (w : World) (lo hi : Nat) (v : Value) (ps : List KeyD) : Prop := RowO w lo hi 32 2 v ps.length (ps.flatMap keyC)
theorem KeyAt.kept {w w' : World} {v : Value} {ps : List KeyD} (h : KeyAt w v ps) (k : Kept w w') : KeyAt w' v ps := RowAt.kept h k
theorem KeyO.kept {w w' : World} {lo hi : Nat} {v : Value} {ps : List KeyD} (h : KeyO w lo hi v ps) (k : Kept w w') : KeyO w' lo hi v ps := RowO.kept h k
theorem KeyO.but {w w' : World} {lo hi lo' hi' : Nat} {v : Value} {ps : List KeyD} (h : KeyO w lo hi v ps) (k : But lo' hi' w w') (ho : hi ≤ lo' ∨ hi' ≤ lo) : KeyO w' lo hi v ps := RowO.but h k ho
theorem KeyO.mono {w : World} {lo hi lo' hi' : Nat} {v : Value} {ps : List KeyD} (h : KeyO w lo hi v ps) (h1 : lo' ≤ lo) (h2 : hi ≤ hi') : KeyO w lo' hi' v ps := RowO.mono h h1 h2
theorem KeyO.low {w : World} {lo hi : Nat} {v : Value} {ps : List KeyD} (h : KeyO w lo hi v ps) : KeyO w lo w.heap.size v ps := RowO.low h
theorem KeyO.at {w : World} {lo hi : Nat} {v : Value} {ps : List KeyD} (h : KeyO w lo hi v ps) : KeyAt w v ps := own_row h.1
theorem KeyO.form {w : World} {lo hi : Nat} {v : Value} {ps : List KeyD} (h : KeyO w lo hi v ps) : ∃ ao cap, v = .slice ao ps.length cap := by
  obtain ⟨ao, cap, e, _⟩ := own_form h.1
  exact ⟨ao, cap, e⟩
theorem key_get {w : World} {v : Value} {ps : List KeyD} (h : KeyAt w v ps) {i : Nat} {p : KeyD} (hp : ps[i]? = some p) :
    ∃ b o cap, v = .slice (some ⟨b, o, none⟩) ps.length cap ∧ w.cell? ⟨b, o + i * 2, none⟩ = some (.int .i64 p.1) ∧ w.cell? ⟨b, o + i * 2 + 1, none⟩ = some (.int .i64 p.2) := by
  obtain ⟨b, o, cap, e, hc⟩ := row_get 2 keyC keyC_len (by omega) h hp
  exact ⟨b, o, cap, e, hc 0 _ rfl, hc 1 _ rfl⟩
theorem KeyO.cells {w : World} {lo hi g cap n : Nat} {ps : List KeyD} (h : KeyO w lo hi (.slice (some ⟨g, 0, none⟩) n cap) ps) {i : Nat} {p : KeyD} (hp : ps[i]? = some p) :
    w.cell? ⟨g, i * 2, none⟩ = some (.int .i64 p.1) ∧ w.cell? ⟨g, i * 2 + 1, none⟩ = some (.int .i64 p.2) ∧ ∀ o, w.frozen? ⟨g, o, none⟩ = false := by
  obtain ⟨hc, hf⟩ := own_get 2 keyC keyC_len (by omega) h hp
  exact ⟨hc 0 _ rfl, hc 1 _ rfl, hf⟩
theorem KeyO.set {w : World} {lo hi g cap n : Nat} {ps : List KeyD} (h : KeyO w lo hi (.slice (some ⟨g, 0, none⟩) n cap) ps) (hn : n = ps.length) {i : Nat} {p q : KeyD} (hp : ps[i]? = some p) (j : Nat) (hj : j < 2) (u : Value) (hu : (keyC p).set j u = keyC q) :
    KeyO (w.setCell ⟨g, i * 2 + j, none⟩ u) lo hi (.slice (some ⟨g, 0, none⟩) n cap) (ps.set i q) := by
  subst hn
  have := RowO.set h (i * 2 + j) u
  unfold KeyO
  rw [List.length_set]
  rw [Nat.mul_comm i 2] at this ⊢
  rw [flat_set 2 keyC keyC_len ps i j p q u hp hj hu] at this
  exact this
/-- An element of a row's own set anew, field by field. -/
theorem KeyO.store {w : World} {lo hi g cap n : Nat} {ps : List KeyD} (h : KeyO w lo hi (.slice (some ⟨g, 0, none⟩) n cap) ps) (hn : n = ps.length) {i : Nat} {p : KeyD} (hp : ps[i]? = some p) (q : KeyD) :
    (w.setCell ⟨g, i * 2, none⟩ (.int .i64 q.1)).cell? ⟨g, i * 2 + 1, none⟩ = some (.int .i64 p.2) ∧
    KeyO ((w.setCell ⟨g, i * 2, none⟩ (.int .i64 q.1)).setCell ⟨g, i * 2 + 1, none⟩ (.int .i64 q.2)) lo hi (.slice (some ⟨g, 0, none⟩) n cap) (ps.set i q) := by
  have hi' : i < ps.length := (List.getElem?_eq_some_iff.1 hp).1
  have h1 := h.set (by simpa using hn) hp 0 (by omega) (.int .i64 q.1) (q := (q.1, p.2)) rfl
  have g1 : (ps.set i (q.1, p.2))[i]? = some (q.1, p.2) := by simp [hi']
  have h2 := h1.set (by simpa using hn) g1 1 (by omega) (.int .i64 q.2) (q := q) rfl
  refine ⟨(h1.cells g1).2.1, by simpa using h2⟩

end Go.Proofs.Ytpnplfngglfpoaa
