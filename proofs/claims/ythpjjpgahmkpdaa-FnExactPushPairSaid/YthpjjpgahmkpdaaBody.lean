/-
  Bodies, pairs and books as plain data, and how lists of them lie in memory.
-/
import Derived.Test.YthpjjpgahmkpdaaBase
namespace Go.Proofs.Ythpjjpgahmkpdaa
open Go.ChangeShapes Go.WideShapes Go.ChangeAt Go.RowKit
abbrev BodyD := Int × Int × Int × Int
def bodyC (p : BodyD) : List Value := [.int .i64 p.1, .int .i64 p.2.1, .int .i64 p.2.2.1, .int .i64 p.2.2.2]
theorem bodyC_len (p : BodyD) : (bodyC p).length = 4 := rfl
def body0 : BodyD := (0, 0, 0, 0)
def BodyAt (w : World) (v : Value) (ps : List BodyD) : Prop := RowAt w v ps.length (ps.flatMap bodyC)
def BodyO (w : World) (lo hi : Nat) (v : Value) (ps : List BodyD) : Prop := RowO w lo hi 33 4 v ps.length (ps.flatMap bodyC)
theorem BodyAt.kept {w w' : World} {v : Value} {ps : List BodyD} (h : BodyAt w v ps) (k : Kept w w') : BodyAt w' v ps := RowAt.kept h k
theorem BodyO.kept {w w' : World} {lo hi : Nat} {v : Value} {ps : List BodyD} (h : BodyO w lo hi v ps) (k : Kept w w') : BodyO w' lo hi v ps := RowO.kept h k
theorem BodyO.but {w w' : World} {lo hi lo' hi' : Nat} {v : Value} {ps : List BodyD} (h : BodyO w lo hi v ps) (k : But lo' hi' w w') (ho : hi ≤ lo' ∨ hi' ≤ lo) : BodyO w' lo hi v ps := RowO.but h k ho
theorem BodyO.mono {w : World} {lo hi lo' hi' : Nat} {v : Value} {ps : List BodyD} (h : BodyO w lo hi v ps) (h1 : lo' ≤ lo) (h2 : hi ≤ hi') : BodyO w lo' hi' v ps := RowO.mono h h1 h2
theorem BodyO.low {w : World} {lo hi : Nat} {v : Value} {ps : List BodyD} (h : BodyO w lo hi v ps) : BodyO w lo w.heap.size v ps := RowO.low h
theorem BodyO.at {w : World} {lo hi : Nat} {v : Value} {ps : List BodyD} (h : BodyO w lo hi v ps) : BodyAt w v ps := own_row h.1
theorem BodyO.form {w : World} {lo hi : Nat} {v : Value} {ps : List BodyD} (h : BodyO w lo hi v ps) : ∃ ao cap, v = .slice ao ps.length cap := by
  obtain ⟨ao, cap, e, _⟩ := own_form h.1
  exact ⟨ao, cap, e⟩
theorem body_get {w : World} {v : Value} {ps : List BodyD} (h : BodyAt w v ps) {i : Nat} {p : BodyD} (hp : ps[i]? = some p) :
    ∃ b o cap, v = .slice (some ⟨b, o, none⟩) ps.length cap ∧ w.cell? ⟨b, o + i * 4, none⟩ = some (.int .i64 p.1) ∧ w.cell? ⟨b, o + i * 4 + 1, none⟩ = some (.int .i64 p.2.1) ∧ w.cell? ⟨b, o + i * 4 + 2, none⟩ = some (.int .i64 p.2.2.1) ∧ w.cell? ⟨b, o + i * 4 + 3, none⟩ = some (.int .i64 p.2.2.2) := by
  obtain ⟨b, o, cap, e, hc⟩ := row_get 4 bodyC bodyC_len (by omega) h hp
  exact ⟨b, o, cap, e, hc 0 _ rfl, hc 1 _ rfl, hc 2 _ rfl, hc 3 _ rfl⟩
theorem BodyO.cells {w : World} {lo hi g cap n : Nat} {ps : List BodyD} (h : BodyO w lo hi (.slice (some ⟨g, 0, none⟩) n cap) ps) {i : Nat} {p : BodyD} (hp : ps[i]? = some p) :
    w.cell? ⟨g, i * 4, none⟩ = some (.int .i64 p.1) ∧ w.cell? ⟨g, i * 4 + 1, none⟩ = some (.int .i64 p.2.1) ∧ w.cell? ⟨g, i * 4 + 2, none⟩ = some (.int .i64 p.2.2.1) ∧ w.cell? ⟨g, i * 4 + 3, none⟩ = some (.int .i64 p.2.2.2) ∧ ∀ o, w.frozen? ⟨g, o, none⟩ = false := by
  obtain ⟨hc, hf⟩ := own_get 4 bodyC bodyC_len (by omega) h hp
  exact ⟨hc 0 _ rfl, hc 1 _ rfl, hc 2 _ rfl, hc 3 _ rfl, hf⟩
theorem BodyO.set {w : World} {lo hi g cap n : Nat} {ps : List BodyD} (h : BodyO w lo hi (.slice (some ⟨g, 0, none⟩) n cap) ps) (hn : n = ps.length) {i : Nat} {p q : BodyD} (hp : ps[i]? = some p) (j : Nat) (hj : j < 4) (u : Value) (hu : (bodyC p).set j u = bodyC q) :
    BodyO (w.setCell ⟨g, i * 4 + j, none⟩ u) lo hi (.slice (some ⟨g, 0, none⟩) n cap) (ps.set i q) := by
  subst hn
  have := RowO.set h (i * 4 + j) u
  unfold BodyO
  rw [List.length_set]
  rw [Nat.mul_comm i 4] at this ⊢
  rw [flat_set 4 bodyC bodyC_len ps i j p q u hp hj hu] at this
  exact this
/-- An element of a row's own set anew, field by field. -/
theorem BodyO.store {w : World} {lo hi g cap n : Nat} {ps : List BodyD} (h : BodyO w lo hi (.slice (some ⟨g, 0, none⟩) n cap) ps) (hn : n = ps.length) {i : Nat} {p : BodyD} (hp : ps[i]? = some p) (q : BodyD) :
    (w.setCell ⟨g, i * 4, none⟩ (.int .i64 q.1)).cell? ⟨g, i * 4 + 1, none⟩ = some (.int .i64 p.2.1) ∧
    ((w.setCell ⟨g, i * 4, none⟩ (.int .i64 q.1)).setCell ⟨g, i * 4 + 1, none⟩ (.int .i64 q.2.1)).cell? ⟨g, i * 4 + 2, none⟩ = some (.int .i64 p.2.2.1) ∧
    (((w.setCell ⟨g, i * 4, none⟩ (.int .i64 q.1)).setCell ⟨g, i * 4 + 1, none⟩ (.int .i64 q.2.1)).setCell ⟨g, i * 4 + 2, none⟩ (.int .i64 q.2.2.1)).cell? ⟨g, i * 4 + 3, none⟩ = some (.int .i64 p.2.2.2) ∧
    BodyO ((((w.setCell ⟨g, i * 4, none⟩ (.int .i64 q.1)).setCell ⟨g, i * 4 + 1, none⟩ (.int .i64 q.2.1)).setCell ⟨g, i * 4 + 2, none⟩ (.int .i64 q.2.2.1)).setCell ⟨g, i * 4 + 3, none⟩ (.int .i64 q.2.2.2)) lo hi (.slice (some ⟨g, 0, none⟩) n cap) (ps.set i q) := by
  have hi' : i < ps.length := (List.getElem?_eq_some_iff.1 hp).1
  have h1 := h.set (by simpa using hn) hp 0 (by omega) (.int .i64 q.1) (q := (q.1, p.2)) rfl
  have g1 : (ps.set i (q.1, p.2))[i]? = some (q.1, p.2) := by simp [hi']
  have h2 := h1.set (by simpa using hn) g1 1 (by omega) (.int .i64 q.2.1) (q := (q.1, q.2.1, p.2.2)) rfl
  have g2 : ((ps.set i (q.1, p.2)).set i (q.1, q.2.1, p.2.2))[i]? = some (q.1, q.2.1, p.2.2) := by simp [hi']
  have h3 := h2.set (by simpa using hn) g2 2 (by omega) (.int .i64 q.2.2.1) (q := (q.1, q.2.1, q.2.2.1, p.2.2.2)) rfl
  have g3 : (((ps.set i (q.1, p.2)).set i (q.1, q.2.1, p.2.2)).set i (q.1, q.2.1, q.2.2.1, p.2.2.2))[i]? = some (q.1, q.2.1, q.2.2.1, p.2.2.2) := by simp [hi']
  have h4 := h3.set (by simpa using hn) g3 3 (by omega) (.int .i64 q.2.2.2) (q := q) rfl
  refine ⟨(h1.cells g1).2.1, (h2.cells g2).2.2.1, (h3.cells g3).2.2.2.1, by simpa using h4⟩
abbrev PairD := Int × Int
def pairC (p : PairD) : List Value := [.int .i64 p.1, .int .i64 p.2]
theorem pairC_len (p : PairD) : (pairC p).length = 2 := rfl
def pair0 : PairD := (0, 0)
def PairAt (w : World) (v : Value) (ps : List PairD) : Prop := RowAt w v ps.length (ps.flatMap pairC)
def PairO (w : World) (lo hi : Nat) (v : Value) (ps : List PairD) : Prop := RowO w lo hi 120 2 v ps.length (ps.flatMap pairC)
theorem PairAt.kept {w w' : World} {v : Value} {ps : List PairD} (h : PairAt w v ps) (k : Kept w w') : PairAt w' v ps := RowAt.kept h k
theorem PairO.kept {w w' : World} {lo hi : Nat} {v : Value} {ps : List PairD} (h : PairO w lo hi v ps) (k : Kept w w') : PairO w' lo hi v ps := RowO.kept h k
theorem PairO.but {w w' : World} {lo hi lo' hi' : Nat} {v : Value} {ps : List PairD} (h : PairO w lo hi v ps) (k : But lo' hi' w w') (ho : hi ≤ lo' ∨ hi' ≤ lo) : PairO w' lo hi v ps := RowO.but h k ho
theorem PairO.mono {w : World} {lo hi lo' hi' : Nat} {v : Value} {ps : List PairD} (h : PairO w lo hi v ps) (h1 : lo' ≤ lo) (h2 : hi ≤ hi') : PairO w lo' hi' v ps := RowO.mono h h1 h2
theorem PairO.low {w : World} {lo hi : Nat} {v : Value} {ps : List PairD} (h : PairO w lo hi v ps) : PairO w lo w.heap.size v ps := RowO.low h
theorem PairO.at {w : World} {lo hi : Nat} {v : Value} {ps : List PairD} (h : PairO w lo hi v ps) : PairAt w v ps := own_row h.1
theorem PairO.form {w : World} {lo hi : Nat} {v : Value} {ps : List PairD} (h : PairO w lo hi v ps) : ∃ ao cap, v = .slice ao ps.length cap := by
  obtain ⟨ao, cap, e, _⟩ := own_form h.1
  exact ⟨ao, cap, e⟩
theorem pair_get {w : World} {v : Value} {ps : List PairD} (h : PairAt w v ps) {i : Nat} {p : PairD} (hp : ps[i]? = some p) :
    ∃ b o cap, v = .slice (some ⟨b, o, none⟩) ps.length cap ∧ w.cell? ⟨b, o + i * 2, none⟩ = some (.int .i64 p.1) ∧ w.cell? ⟨b, o + i * 2 + 1, none⟩ = some (.int .i64 p.2) := by
  obtain ⟨b, o, cap, e, hc⟩ := row_get 2 pairC pairC_len (by omega) h hp
  exact ⟨b, o, cap, e, hc 0 _ rfl, hc 1 _ rfl⟩
theorem PairO.cells {w : World} {lo hi g cap n : Nat} {ps : List PairD} (h : PairO w lo hi (.slice (some ⟨g, 0, none⟩) n cap) ps) {i : Nat} {p : PairD} (hp : ps[i]? = some p) :
    w.cell? ⟨g, i * 2, none⟩ = some (.int .i64 p.1) ∧ w.cell? ⟨g, i * 2 + 1, none⟩ = some (.int .i64 p.2) ∧ ∀ o, w.frozen? ⟨g, o, none⟩ = false := by
  obtain ⟨hc, hf⟩ := own_get 2 pairC pairC_len (by omega) h hp
  exact ⟨hc 0 _ rfl, hc 1 _ rfl, hf⟩
theorem PairO.set {w : World} {lo hi g cap n : Nat} {ps : List PairD} (h : PairO w lo hi (.slice (some ⟨g, 0, none⟩) n cap) ps) (hn : n = ps.length) {i : Nat} {p q : PairD} (hp : ps[i]? = some p) (j : Nat) (hj : j < 2) (u : Value) (hu : (pairC p).set j u = pairC q) :
    PairO (w.setCell ⟨g, i * 2 + j, none⟩ u) lo hi (.slice (some ⟨g, 0, none⟩) n cap) (ps.set i q) := by
  subst hn
  have := RowO.set h (i * 2 + j) u
  unfold PairO
  rw [List.length_set]
  rw [Nat.mul_comm i 2] at this ⊢
  rw [flat_set 2 pairC pairC_len ps i j p q u hp hj hu] at this
  exact this
/-- An element of a row's own set anew, field by field. -/
theorem PairO.store {w : World} {lo hi g cap n : Nat} {ps : List PairD} (h : PairO w lo hi (.slice (some ⟨g, 0, none⟩) n cap) ps) (hn : n = ps.length) {i : Nat} {p : PairD} (hp : ps[i]? = some p) (q : PairD) :
    (w.setCell ⟨g, i * 2, none⟩ (.int .i64 q.1)).cell? ⟨g, i * 2 + 1, none⟩ = some (.int .i64 p.2) ∧
    PairO ((w.setCell ⟨g, i * 2, none⟩ (.int .i64 q.1)).setCell ⟨g, i * 2 + 1, none⟩ (.int .i64 q.2)) lo hi (.slice (some ⟨g, 0, none⟩) n cap) (ps.set i q) := by
  have hi' : i < ps.length := (List.getElem?_eq_some_iff.1 hp).1
  have h1 := h.set (by simpa using hn) hp 0 (by omega) (.int .i64 q.1) (q := (q.1, p.2)) rfl
  have g1 : (ps.set i (q.1, p.2))[i]? = some (q.1, p.2) := by simp [hi']
  have h2 := h1.set (by simpa using hn) g1 1 (by omega) (.int .i64 q.2) (q := q) rfl
  refine ⟨(h1.cells g1).2.1, by simpa using h2⟩
abbrev SolidD := Int × Int × Int × Int
def solidC (p : SolidD) : List Value := [.int .i64 p.1, .int .i64 p.2.1, .int .i64 p.2.2.1, .int .i64 p.2.2.2]
theorem solidC_len (p : SolidD) : (solidC p).length = 4 := rfl
def solid0 : SolidD := (0, 0, 0, 0)
def SolidAt (w : World) (v : Value) (ps : List SolidD) : Prop := RowAt w v ps.length (ps.flatMap solidC)
def SolidO (w : World) (lo hi : Nat) (v : Value) (ps : List SolidD) : Prop := RowO w lo hi 95 4 v ps.length (ps.flatMap solidC)
theorem SolidAt.kept {w w' : World} {v : Value} {ps : List SolidD} (h : SolidAt w v ps) (k : Kept w w') : SolidAt w' v ps := RowAt.kept h k
theorem SolidO.kept {w w' : World} {lo hi : Nat} {v : Value} {ps : List SolidD} (h : SolidO w lo hi v ps) (k : Kept w w') : SolidO w' lo hi v ps := RowO.kept h k
theorem SolidO.but {w w' : World} {lo hi lo' hi' : Nat} {v : Value} {ps : List SolidD} (h : SolidO w lo hi v ps) (k : But lo' hi' w w') (ho : hi ≤ lo' ∨ hi' ≤ lo) : SolidO w' lo hi v ps := RowO.but h k ho
theorem SolidO.mono {w : World} {lo hi lo' hi' : Nat} {v : Value} {ps : List SolidD} (h : SolidO w lo hi v ps) (h1 : lo' ≤ lo) (h2 : hi ≤ hi') : SolidO w lo' hi' v ps := RowO.mono h h1 h2
theorem SolidO.low {w : World} {lo hi : Nat} {v : Value} {ps : List SolidD} (h : SolidO w lo hi v ps) : SolidO w lo w.heap.size v ps := RowO.low h
theorem SolidO.at {w : World} {lo hi : Nat} {v : Value} {ps : List SolidD} (h : SolidO w lo hi v ps) : SolidAt w v ps := own_row h.1
theorem SolidO.form {w : World} {lo hi : Nat} {v : Value} {ps : List SolidD} (h : SolidO w lo hi v ps) : ∃ ao cap, v = .slice ao ps.length cap := by
  obtain ⟨ao, cap, e, _⟩ := own_form h.1
  exact ⟨ao, cap, e⟩
theorem solid_get {w : World} {v : Value} {ps : List SolidD} (h : SolidAt w v ps) {i : Nat} {p : SolidD} (hp : ps[i]? = some p) :
    ∃ b o cap, v = .slice (some ⟨b, o, none⟩) ps.length cap ∧ w.cell? ⟨b, o + i * 4, none⟩ = some (.int .i64 p.1) ∧ w.cell? ⟨b, o + i * 4 + 1, none⟩ = some (.int .i64 p.2.1) ∧ w.cell? ⟨b, o + i * 4 + 2, none⟩ = some (.int .i64 p.2.2.1) ∧ w.cell? ⟨b, o + i * 4 + 3, none⟩ = some (.int .i64 p.2.2.2) := by
  obtain ⟨b, o, cap, e, hc⟩ := row_get 4 solidC solidC_len (by omega) h hp
  exact ⟨b, o, cap, e, hc 0 _ rfl, hc 1 _ rfl, hc 2 _ rfl, hc 3 _ rfl⟩
theorem SolidO.cells {w : World} {lo hi g cap n : Nat} {ps : List SolidD} (h : SolidO w lo hi (.slice (some ⟨g, 0, none⟩) n cap) ps) {i : Nat} {p : SolidD} (hp : ps[i]? = some p) :
    w.cell? ⟨g, i * 4, none⟩ = some (.int .i64 p.1) ∧ w.cell? ⟨g, i * 4 + 1, none⟩ = some (.int .i64 p.2.1) ∧ w.cell? ⟨g, i * 4 + 2, none⟩ = some (.int .i64 p.2.2.1) ∧ w.cell? ⟨g, i * 4 + 3, none⟩ = some (.int .i64 p.2.2.2) ∧ ∀ o, w.frozen? ⟨g, o, none⟩ = false := by
  obtain ⟨hc, hf⟩ := own_get 4 solidC solidC_len (by omega) h hp
  exact ⟨hc 0 _ rfl, hc 1 _ rfl, hc 2 _ rfl, hc 3 _ rfl, hf⟩
theorem SolidO.set {w : World} {lo hi g cap n : Nat} {ps : List SolidD} (h : SolidO w lo hi (.slice (some ⟨g, 0, none⟩) n cap) ps) (hn : n = ps.length) {i : Nat} {p q : SolidD} (hp : ps[i]? = some p) (j : Nat) (hj : j < 4) (u : Value) (hu : (solidC p).set j u = solidC q) :
    SolidO (w.setCell ⟨g, i * 4 + j, none⟩ u) lo hi (.slice (some ⟨g, 0, none⟩) n cap) (ps.set i q) := by
  subst hn
  have := RowO.set h (i * 4 + j) u
  unfold SolidO
  rw [List.length_set]
  rw [Nat.mul_comm i 4] at this ⊢
  rw [flat_set 4 solidC solidC_len ps i j p q u hp hj hu] at this
  exact this
/-- An element of a row's own set anew, field by field. -/
theorem SolidO.store {w : World} {lo hi g cap n : Nat} {ps : List SolidD} (h : SolidO w lo hi (.slice (some ⟨g, 0, none⟩) n cap) ps) (hn : n = ps.length) {i : Nat} {p : SolidD} (hp : ps[i]? = some p) (q : SolidD) :
    (w.setCell ⟨g, i * 4, none⟩ (.int .i64 q.1)).cell? ⟨g, i * 4 + 1, none⟩ = some (.int .i64 p.2.1) ∧
    ((w.setCell ⟨g, i * 4, none⟩ (.int .i64 q.1)).setCell ⟨g, i * 4 + 1, none⟩ (.int .i64 q.2.1)).cell? ⟨g, i * 4 + 2, none⟩ = some (.int .i64 p.2.2.1) ∧
    (((w.setCell ⟨g, i * 4, none⟩ (.int .i64 q.1)).setCell ⟨g, i * 4 + 1, none⟩ (.int .i64 q.2.1)).setCell ⟨g, i * 4 + 2, none⟩ (.int .i64 q.2.2.1)).cell? ⟨g, i * 4 + 3, none⟩ = some (.int .i64 p.2.2.2) ∧
    SolidO ((((w.setCell ⟨g, i * 4, none⟩ (.int .i64 q.1)).setCell ⟨g, i * 4 + 1, none⟩ (.int .i64 q.2.1)).setCell ⟨g, i * 4 + 2, none⟩ (.int .i64 q.2.2.1)).setCell ⟨g, i * 4 + 3, none⟩ (.int .i64 q.2.2.2)) lo hi (.slice (some ⟨g, 0, none⟩) n cap) (ps.set i q) := by
  have hi' : i < ps.length := (List.getElem?_eq_some_iff.1 hp).1
  have h1 := h.set (by simpa using hn) hp 0 (by omega) (.int .i64 q.1) (q := (q.1, p.2)) rfl
  have g1 : (ps.set i (q.1, p.2))[i]? = some (q.1, p.2) := by simp [hi']
  have h2 := h1.set (by simpa using hn) g1 1 (by omega) (.int .i64 q.2.1) (q := (q.1, q.2.1, p.2.2)) rfl
  have g2 : ((ps.set i (q.1, p.2)).set i (q.1, q.2.1, p.2.2))[i]? = some (q.1, q.2.1, p.2.2) := by simp [hi']
  have h3 := h2.set (by simpa using hn) g2 2 (by omega) (.int .i64 q.2.2.1) (q := (q.1, q.2.1, q.2.2.1, p.2.2.2)) rfl
  have g3 : (((ps.set i (q.1, p.2)).set i (q.1, q.2.1, p.2.2)).set i (q.1, q.2.1, q.2.2.1, p.2.2.2))[i]? = some (q.1, q.2.1, q.2.2.1, p.2.2.2) := by simp [hi']
  have h4 := h3.set (by simpa using hn) g3 3 (by omega) (.int .i64 q.2.2.2) (q := q) rfl
  refine ⟨(h1.cells g1).2.1, (h2.cells g2).2.2.1, (h3.cells g3).2.2.2.1, by simpa using h4⟩
abbrev BookD := Int × Int × Int
def bookC (p : BookD) : List Value := [.int .i64 p.1, .int .i64 p.2.1, .int .i64 p.2.2]
theorem bookC_len (p : BookD) : (bookC p).length = 3 := rfl
def book0 : BookD := (0, 0, 0)
def BookAt (w : World) (v : Value) (ps : List BookD) : Prop := RowAt w v ps.length (ps.flatMap bookC)
def BookO (w : World) (lo hi : Nat) (v : Value) (ps : List BookD) : Prop := RowO w lo hi 29 3 v ps.length (ps.flatMap bookC)
theorem BookAt.kept {w w' : World} {v : Value} {ps : List BookD} (h : BookAt w v ps) (k : Kept w w') : BookAt w' v ps := RowAt.kept h k
theorem BookO.kept {w w' : World} {lo hi : Nat} {v : Value} {ps : List BookD} (h : BookO w lo hi v ps) (k : Kept w w') : BookO w' lo hi v ps := RowO.kept h k
theorem BookO.but {w w' : World} {lo hi lo' hi' : Nat} {v : Value} {ps : List BookD} (h : BookO w lo hi v ps) (k : But lo' hi' w w') (ho : hi ≤ lo' ∨ hi' ≤ lo) : BookO w' lo hi v ps := RowO.but h k ho
theorem BookO.mono {w : World} {lo hi lo' hi' : Nat} {v : Value} {ps : List BookD} (h : BookO w lo hi v ps) (h1 : lo' ≤ lo) (h2 : hi ≤ hi') : BookO w lo' hi' v ps := RowO.mono h h1 h2
theorem BookO.low {w : World} {lo hi : Nat} {v : Value} {ps : List BookD} (h : BookO w lo hi v ps) : BookO w lo w.heap.size v ps := RowO.low h
theorem BookO.at {w : World} {lo hi : Nat} {v : Value} {ps : List BookD} (h : BookO w lo hi v ps) : BookAt w v ps := own_row h.1
theorem BookO.form {w : World} {lo hi : Nat} {v : Value} {ps : List BookD} (h : BookO w lo hi v ps) : ∃ ao cap, v = .slice ao ps.length cap := by
  obtain ⟨ao, cap, e, _⟩ := own_form h.1
  exact ⟨ao, cap, e⟩
theorem book_get {w : World} {v : Value} {ps : List BookD} (h : BookAt w v ps) {i : Nat} {p : BookD} (hp : ps[i]? = some p) :
    ∃ b o cap, v = .slice (some ⟨b, o, none⟩) ps.length cap ∧ w.cell? ⟨b, o + i * 3, none⟩ = some (.int .i64 p.1) ∧ w.cell? ⟨b, o + i * 3 + 1, none⟩ = some (.int .i64 p.2.1) ∧ w.cell? ⟨b, o + i * 3 + 2, none⟩ = some (.int .i64 p.2.2) := by
  obtain ⟨b, o, cap, e, hc⟩ := row_get 3 bookC bookC_len (by omega) h hp
  exact ⟨b, o, cap, e, hc 0 _ rfl, hc 1 _ rfl, hc 2 _ rfl⟩
theorem BookO.cells {w : World} {lo hi g cap n : Nat} {ps : List BookD} (h : BookO w lo hi (.slice (some ⟨g, 0, none⟩) n cap) ps) {i : Nat} {p : BookD} (hp : ps[i]? = some p) :
    w.cell? ⟨g, i * 3, none⟩ = some (.int .i64 p.1) ∧ w.cell? ⟨g, i * 3 + 1, none⟩ = some (.int .i64 p.2.1) ∧ w.cell? ⟨g, i * 3 + 2, none⟩ = some (.int .i64 p.2.2) ∧ ∀ o, w.frozen? ⟨g, o, none⟩ = false := by
  obtain ⟨hc, hf⟩ := own_get 3 bookC bookC_len (by omega) h hp
  exact ⟨hc 0 _ rfl, hc 1 _ rfl, hc 2 _ rfl, hf⟩
theorem BookO.set {w : World} {lo hi g cap n : Nat} {ps : List BookD} (h : BookO w lo hi (.slice (some ⟨g, 0, none⟩) n cap) ps) (hn : n = ps.length) {i : Nat} {p q : BookD} (hp : ps[i]? = some p) (j : Nat) (hj : j < 3) (u : Value) (hu : (bookC p).set j u = bookC q) :
    BookO (w.setCell ⟨g, i * 3 + j, none⟩ u) lo hi (.slice (some ⟨g, 0, none⟩) n cap) (ps.set i q) := by
  subst hn
  have := RowO.set h (i * 3 + j) u
  unfold BookO
  rw [List.length_set]
  rw [Nat.mul_comm i 3] at this ⊢
  rw [flat_set 3 bookC bookC_len ps i j p q u hp hj hu] at this
  exact this
/-- An element of a row's own set anew, field by field. -/
theorem BookO.store {w : World} {lo hi g cap n : Nat} {ps : List BookD} (h : BookO w lo hi (.slice (some ⟨g, 0, none⟩) n cap) ps) (hn : n = ps.length) {i : Nat} {p : BookD} (hp : ps[i]? = some p) (q : BookD) :
    (w.setCell ⟨g, i * 3, none⟩ (.int .i64 q.1)).cell? ⟨g, i * 3 + 1, none⟩ = some (.int .i64 p.2.1) ∧
    ((w.setCell ⟨g, i * 3, none⟩ (.int .i64 q.1)).setCell ⟨g, i * 3 + 1, none⟩ (.int .i64 q.2.1)).cell? ⟨g, i * 3 + 2, none⟩ = some (.int .i64 p.2.2) ∧
    BookO (((w.setCell ⟨g, i * 3, none⟩ (.int .i64 q.1)).setCell ⟨g, i * 3 + 1, none⟩ (.int .i64 q.2.1)).setCell ⟨g, i * 3 + 2, none⟩ (.int .i64 q.2.2)) lo hi (.slice (some ⟨g, 0, none⟩) n cap) (ps.set i q) := by
  have hi' : i < ps.length := (List.getElem?_eq_some_iff.1 hp).1
  have h1 := h.set (by simpa using hn) hp 0 (by omega) (.int .i64 q.1) (q := (q.1, p.2)) rfl
  have g1 : (ps.set i (q.1, p.2))[i]? = some (q.1, p.2) := by simp [hi']
  have h2 := h1.set (by simpa using hn) g1 1 (by omega) (.int .i64 q.2.1) (q := (q.1, q.2.1, p.2.2)) rfl
  have g2 : ((ps.set i (q.1, p.2)).set i (q.1, q.2.1, p.2.2))[i]? = some (q.1, q.2.1, p.2.2) := by simp [hi']
  have h3 := h2.set (by simpa using hn) g2 2 (by omega) (.int .i64 q.2.2) (q := q) rfl
  refine ⟨(h1.cells g1).2.1, (h2.cells g2).2.2.1, by simpa using h3⟩

end Go.Proofs.Ythpjjpgahmkpdaa
