/-
  Shapes, pairs and meetings as plain data, and how lists of them lie in memory.
-/
import Derived.Test.YtfibikkbhbmfkaaBase
namespace Go.Proofs.Ytfibikkbhbmfkaa
open Go.ChangeShapes Go.WideShapes Go.ChangeAt Go.RowKit
abbrev ShapeD := Int × Int × Int × Int × Int
def shapeC (p : ShapeD) : List Value := [.int .i64 p.1, .int .i64 p.2.1, .int .i64 p.2.2.1, .int .i64 p.2.2.2.1, .int .i64 p.2.2.2.2]
theorem shapeC_len (p : ShapeD) : (shapeC p).length = 5 := rfl
def shape0 : ShapeD := (0, 0, 0, 0, 0)
def ShapeAt (w : World) (v : Value) (ps : List ShapeD) : Prop := RowAt w v ps.length (ps.flatMap shapeC)
def ShapeO (w : World) (lo hi : Nat) (v : Value) (ps : List ShapeD) : Prop := RowO w lo hi 25 5 v ps.length (ps.flatMap shapeC)
theorem ShapeAt.kept {w w' : World} {v : Value} {ps : List ShapeD} (h : ShapeAt w v ps) (k : Kept w w') : ShapeAt w' v ps := RowAt.kept h k
theorem ShapeO.kept {w w' : World} {lo hi : Nat} {v : Value} {ps : List ShapeD} (h : ShapeO w lo hi v ps) (k : Kept w w') : ShapeO w' lo hi v ps := RowO.kept h k
theorem ShapeO.but {w w' : World} {lo hi lo' hi' : Nat} {v : Value} {ps : List ShapeD} (h : ShapeO w lo hi v ps) (k : But lo' hi' w w') (ho : hi ≤ lo' ∨ hi' ≤ lo) : ShapeO w' lo hi v ps := RowO.but h k ho
theorem ShapeO.mono {w : World} {lo hi lo' hi' : Nat} {v : Value} {ps : List ShapeD} (h : ShapeO w lo hi v ps) (h1 : lo' ≤ lo) (h2 : hi ≤ hi') : ShapeO w lo' hi' v ps := RowO.mono h h1 h2
theorem ShapeO.low {w : World} {lo hi : Nat} {v : Value} {ps : List ShapeD} (h : ShapeO w lo hi v ps) : ShapeO w lo w.heap.size v ps := RowO.low h
theorem ShapeO.at {w : World} {lo hi : Nat} {v : Value} {ps : List ShapeD} (h : ShapeO w lo hi v ps) : ShapeAt w v ps := own_row h.1
theorem ShapeO.form {w : World} {lo hi : Nat} {v : Value} {ps : List ShapeD} (h : ShapeO w lo hi v ps) : ∃ ao cap, v = .slice ao ps.length cap := by
  obtain ⟨ao, cap, e, _⟩ := own_form h.1
  exact ⟨ao, cap, e⟩
theorem shape_get {w : World} {v : Value} {ps : List ShapeD} (h : ShapeAt w v ps) {i : Nat} {p : ShapeD} (hp : ps[i]? = some p) :
    ∃ b o cap, v = .slice (some ⟨b, o, none⟩) ps.length cap ∧ w.cell? ⟨b, o + i * 5, none⟩ = some (.int .i64 p.1) ∧ w.cell? ⟨b, o + i * 5 + 1, none⟩ = some (.int .i64 p.2.1) ∧ w.cell? ⟨b, o + i * 5 + 2, none⟩ = some (.int .i64 p.2.2.1) ∧ w.cell? ⟨b, o + i * 5 + 3, none⟩ = some (.int .i64 p.2.2.2.1) ∧ w.cell? ⟨b, o + i * 5 + 4, none⟩ = some (.int .i64 p.2.2.2.2) := by
  obtain ⟨b, o, cap, e, hc⟩ := row_get 5 shapeC shapeC_len (by omega) h hp
  exact ⟨b, o, cap, e, hc 0 _ rfl, hc 1 _ rfl, hc 2 _ rfl, hc 3 _ rfl, hc 4 _ rfl⟩
theorem ShapeO.cells {w : World} {lo hi g cap n : Nat} {ps : List ShapeD} (h : ShapeO w lo hi (.slice (some ⟨g, 0, none⟩) n cap) ps) {i : Nat} {p : ShapeD} (hp : ps[i]? = some p) :
    w.cell? ⟨g, i * 5, none⟩ = some (.int .i64 p.1) ∧ w.cell? ⟨g, i * 5 + 1, none⟩ = some (.int .i64 p.2.1) ∧ w.cell? ⟨g, i * 5 + 2, none⟩ = some (.int .i64 p.2.2.1) ∧ w.cell? ⟨g, i * 5 + 3, none⟩ = some (.int .i64 p.2.2.2.1) ∧ w.cell? ⟨g, i * 5 + 4, none⟩ = some (.int .i64 p.2.2.2.2) ∧ ∀ o, w.frozen? ⟨g, o, none⟩ = false := by
  obtain ⟨hc, hf⟩ := own_get 5 shapeC shapeC_len (by omega) h hp
  exact ⟨hc 0 _ rfl, hc 1 _ rfl, hc 2 _ rfl, hc 3 _ rfl, hc 4 _ rfl, hf⟩
theorem ShapeO.set {w : World} {lo hi g cap n : Nat} {ps : List ShapeD} (h : ShapeO w lo hi (.slice (some ⟨g, 0, none⟩) n cap) ps) (hn : n = ps.length) {i : Nat} {p q : ShapeD} (hp : ps[i]? = some p) (j : Nat) (hj : j < 5) (u : Value) (hu : (shapeC p).set j u = shapeC q) :
    ShapeO (w.setCell ⟨g, i * 5 + j, none⟩ u) lo hi (.slice (some ⟨g, 0, none⟩) n cap) (ps.set i q) := by
  subst hn
  have := RowO.set h (i * 5 + j) u
  unfold ShapeO
  rw [List.length_set]
  rw [Nat.mul_comm i 5] at this ⊢
  rw [flat_set 5 shapeC shapeC_len ps i j p q u hp hj hu] at this
  exact this
/-- An element of a row's own set anew, field by field. -/
theorem ShapeO.store {w : World} {lo hi g cap n : Nat} {ps : List ShapeD} (h : ShapeO w lo hi (.slice (some ⟨g, 0, none⟩) n cap) ps) (hn : n = ps.length) {i : Nat} {p : ShapeD} (hp : ps[i]? = some p) (q : ShapeD) :
    (w.setCell ⟨g, i * 5, none⟩ (.int .i64 q.1)).cell? ⟨g, i * 5 + 1, none⟩ = some (.int .i64 p.2.1) ∧
    ((w.setCell ⟨g, i * 5, none⟩ (.int .i64 q.1)).setCell ⟨g, i * 5 + 1, none⟩ (.int .i64 q.2.1)).cell? ⟨g, i * 5 + 2, none⟩ = some (.int .i64 p.2.2.1) ∧
    (((w.setCell ⟨g, i * 5, none⟩ (.int .i64 q.1)).setCell ⟨g, i * 5 + 1, none⟩ (.int .i64 q.2.1)).setCell ⟨g, i * 5 + 2, none⟩ (.int .i64 q.2.2.1)).cell? ⟨g, i * 5 + 3, none⟩ = some (.int .i64 p.2.2.2.1) ∧
    ((((w.setCell ⟨g, i * 5, none⟩ (.int .i64 q.1)).setCell ⟨g, i * 5 + 1, none⟩ (.int .i64 q.2.1)).setCell ⟨g, i * 5 + 2, none⟩ (.int .i64 q.2.2.1)).setCell ⟨g, i * 5 + 3, none⟩ (.int .i64 q.2.2.2.1)).cell? ⟨g, i * 5 + 4, none⟩ = some (.int .i64 p.2.2.2.2) ∧
    ShapeO (((((w.setCell ⟨g, i * 5, none⟩ (.int .i64 q.1)).setCell ⟨g, i * 5 + 1, none⟩ (.int .i64 q.2.1)).setCell ⟨g, i * 5 + 2, none⟩ (.int .i64 q.2.2.1)).setCell ⟨g, i * 5 + 3, none⟩ (.int .i64 q.2.2.2.1)).setCell ⟨g, i * 5 + 4, none⟩ (.int .i64 q.2.2.2.2)) lo hi (.slice (some ⟨g, 0, none⟩) n cap) (ps.set i q) := by
  have hi' : i < ps.length := (List.getElem?_eq_some_iff.1 hp).1
  have h1 := h.set (by simpa using hn) hp 0 (by omega) (.int .i64 q.1) (q := (q.1, p.2)) rfl
  have g1 : (ps.set i (q.1, p.2))[i]? = some (q.1, p.2) := by simp [hi']
  have h2 := h1.set (by simpa using hn) g1 1 (by omega) (.int .i64 q.2.1) (q := (q.1, q.2.1, p.2.2)) rfl
  have g2 : ((ps.set i (q.1, p.2)).set i (q.1, q.2.1, p.2.2))[i]? = some (q.1, q.2.1, p.2.2) := by simp [hi']
  have h3 := h2.set (by simpa using hn) g2 2 (by omega) (.int .i64 q.2.2.1) (q := (q.1, q.2.1, q.2.2.1, p.2.2.2)) rfl
  have g3 : (((ps.set i (q.1, p.2)).set i (q.1, q.2.1, p.2.2)).set i (q.1, q.2.1, q.2.2.1, p.2.2.2))[i]? = some (q.1, q.2.1, q.2.2.1, p.2.2.2) := by simp [hi']
  have h4 := h3.set (by simpa using hn) g3 3 (by omega) (.int .i64 q.2.2.2.1) (q := (q.1, q.2.1, q.2.2.1, q.2.2.2.1, p.2.2.2.2)) rfl
  have g4 : ((((ps.set i (q.1, p.2)).set i (q.1, q.2.1, p.2.2)).set i (q.1, q.2.1, q.2.2.1, p.2.2.2)).set i (q.1, q.2.1, q.2.2.1, q.2.2.2.1, p.2.2.2.2))[i]? = some (q.1, q.2.1, q.2.2.1, q.2.2.2.1, p.2.2.2.2) := by simp [hi']
  have h5 := h4.set (by simpa using hn) g4 4 (by omega) (.int .i64 q.2.2.2.2) (q := q) rfl
  refine ⟨(h1.cells g1).2.1, (h2.cells g2).2.2.1, (h3.cells g3).2.2.2.1, (h4.cells g4).2.2.2.2.1, by simpa using h5⟩
abbrev PairD := Int × Int
def pairC (p : PairD) : List Value := [.int .i64 p.1, .int .i64 p.2]
theorem pairC_len (p : PairD) : (pairC p).length = 2 := rfl
def pair0 : PairD := (0, 0)
def PairAt (w : World) (v : Value) (ps : List PairD) : Prop := RowAt w v ps.length (ps.flatMap pairC)
def PairO (w : World) (lo hi : Nat) (v : Value) (ps : List PairD) : Prop := RowO w lo hi 70 2 v ps.length (ps.flatMap pairC)
theorem PairAt.kept {w w' : World} {v : Value} {ps : List PairD} (h : PairAt w v ps) (k : Kept w w') : PairAt w' v ps := RowAt.kept h k
theorem PairO.kept {w w' : World} {lo hi : Nat} {v : Value} {ps : List PairD} (h : PairO w lo hi v ps) (k : Kept w w') : PairO w' lo hi v ps := RowO.kept h k
theorem PairO.but {w w' : World} {lo hi lo' hi' : Nat} {v : Value} {ps : List PairD} (h : PairO w lo hi v ps) (k : But lo' hi' w w') (ho : hi ≤ lo' ∨ hi' ≤ lo) : PairO w' lo hi v ps := RowO.but h k ho
theorem PairO.mono {w : World} {lo hi lo' hi' : Nat} {v : Value} {ps : List PairD} (h : PairO w lo hi v ps) (h1 : lo' ≤ lo) (h2 : hi ≤ hi') : PairO w lo' hi' v ps := RowO.mono h h1 h2
theorem PairO.low {w : World} {lo hi : Nat} {v : Value} {ps : List PairD} (h : PairO w lo hi v ps) : PairO w lo w.heap.size v ps := RowO.low h
theorem PairO.at {w : World} {lo hi : Nat} {v : Value} {ps : List PairD} (h : PairO w lo hi v ps) : PairAt w v ps := own_row h.1
theorem PairO.form {w : World} {lo hi : Nat} {v : Value} {ps : List PairD} (h : PairO w lo hi v ps) : ∃ ao cap, v = .slice ao ps.length cap := by
  obtain ⟨ao, cap, e, _⟩ := own_form h.1
  exact ⟨ao, cap, e⟩
theorem pair_get {w : World} {v : Value} {ps : List PairD} (h : PairAt w v ps) {i : Nat} {p : PairD} (hp : ps[i]? = some p) :
    ∃ b o cap, v = .slice (some ⟨b, o, none⟩) ps.length cap ∧ w.cell? ⟨b, o + i * 2, none⟩ = some (.int .i64 p.1) ∧ w.cell? ⟨b, o + i * 2 + 1, none⟩ = some (.int .i64 p.2) := by
  obtain ⟨b, o, cap, e, hc⟩ := row_get 2 pairC pairC_len (by omega) h hp
  exact ⟨b, o, cap, e, hc 0 _ rfl, hc 1 _ rfl⟩
theorem PairO.cells {w : World} {lo hi g cap n : Nat} {ps : List PairD} (h : PairO w lo hi (.slice (some ⟨g, 0, none⟩) n cap) ps) {i : Nat} {p : PairD} (hp : ps[i]? = some p) :
    w.cell? ⟨g, i * 2, none⟩ = some (.int .i64 p.1) ∧ w.cell? ⟨g, i * 2 + 1, none⟩ = some (.int .i64 p.2) ∧ ∀ o, w.frozen? ⟨g, o, none⟩ = false := by
  obtain ⟨hc, hf⟩ := own_get 2 pairC pairC_len (by omega) h hp
  exact ⟨hc 0 _ rfl, hc 1 _ rfl, hf⟩
theorem PairO.set {w : World} {lo hi g cap n : Nat} {ps : List PairD} (h : PairO w lo hi (.slice (some ⟨g, 0, none⟩) n cap) ps) (hn : n = ps.length) {i : Nat} {p q : PairD} (hp : ps[i]? = some p) (j : Nat) (hj : j < 2) (u : Value) (hu : (pairC p).set j u = pairC q) :
    PairO (w.setCell ⟨g, i * 2 + j, none⟩ u) lo hi (.slice (some ⟨g, 0, none⟩) n cap) (ps.set i q) := by
  subst hn
  have := RowO.set h (i * 2 + j) u
  unfold PairO
  rw [List.length_set]
  rw [Nat.mul_comm i 2] at this ⊢
  rw [flat_set 2 pairC pairC_len ps i j p q u hp hj hu] at this
  exact this
/-- An element of a row's own set anew, field by field. -/
theorem PairO.store {w : World} {lo hi g cap n : Nat} {ps : List PairD} (h : PairO w lo hi (.slice (some ⟨g, 0, none⟩) n cap) ps) (hn : n = ps.length) {i : Nat} {p : PairD} (hp : ps[i]? = some p) (q : PairD) :
    (w.setCell ⟨g, i * 2, none⟩ (.int .i64 q.1)).cell? ⟨g, i * 2 + 1, none⟩ = some (.int .i64 p.2) ∧
    PairO ((w.setCell ⟨g, i * 2, none⟩ (.int .i64 q.1)).setCell ⟨g, i * 2 + 1, none⟩ (.int .i64 q.2)) lo hi (.slice (some ⟨g, 0, none⟩) n cap) (ps.set i q) := by
  have hi' : i < ps.length := (List.getElem?_eq_some_iff.1 hp).1
  have h1 := h.set (by simpa using hn) hp 0 (by omega) (.int .i64 q.1) (q := (q.1, p.2)) rfl
  have g1 : (ps.set i (q.1, p.2))[i]? = some (q.1, p.2) := by simp [hi']
  have h2 := h1.set (by simpa using hn) g1 1 (by omega) (.int .i64 q.2) (q := q) rfl
  refine ⟨(h1.cells g1).2.1, by simpa using h2⟩
abbrev MeetD := Int × Int × Int
def meetC (p : MeetD) : List Value := [.int .i64 p.1, .int .i64 p.2.1, .int .i64 p.2.2]
theorem meetC_len (p : MeetD) : (meetC p).length = 3 := rfl
def meet0 : MeetD := (0, 0, 0)
def MeetAt (w : World) (v : Value) (ps : List MeetD) : Prop := RowAt w v ps.length (ps.flatMap meetC)
def MeetO (w : World) (lo hi : Nat) (v : Value) (ps : List MeetD) : Prop := RowO w lo hi 84 3 v ps.length (ps.flatMap meetC)
theorem MeetAt.kept {w w' : World} {v : Value} {ps : List MeetD} (h : MeetAt w v ps) (k : Kept w w') : MeetAt w' v ps := RowAt.kept h k
theorem MeetO.kept {w w' : World} {lo hi : Nat} {v : Value} {ps : List MeetD} (h : MeetO w lo hi v ps) (k : Kept w w') : MeetO w' lo hi v ps := RowO.kept h k
theorem MeetO.but {w w' : World} {lo hi lo' hi' : Nat} {v : Value} {ps : List MeetD} (h : MeetO w lo hi v ps) (k : But lo' hi' w w') (ho : hi ≤ lo' ∨ hi' ≤ lo) : MeetO w' lo hi v ps := RowO.but h k ho
theorem MeetO.mono {w : World} {lo hi lo' hi' : Nat} {v : Value} {ps : List MeetD} (h : MeetO w lo hi v ps) (h1 : lo' ≤ lo) (h2 : hi ≤ hi') : MeetO w lo' hi' v ps := RowO.mono h h1 h2
theorem MeetO.low {w : World} {lo hi : Nat} {v : Value} {ps : List MeetD} (h : MeetO w lo hi v ps) : MeetO w lo w.heap.size v ps := RowO.low h
theorem MeetO.at {w : World} {lo hi : Nat} {v : Value} {ps : List MeetD} (h : MeetO w lo hi v ps) : MeetAt w v ps := own_row h.1
theorem MeetO.form {w : World} {lo hi : Nat} {v : Value} {ps : List MeetD} (h : MeetO w lo hi v ps) : ∃ ao cap, v = .slice ao ps.length cap := by
  obtain ⟨ao, cap, e, _⟩ := own_form h.1
  exact ⟨ao, cap, e⟩
theorem meet_get {w : World} {v : Value} {ps : List MeetD} (h : MeetAt w v ps) {i : Nat} {p : MeetD} (hp : ps[i]? = some p) :
    ∃ b o cap, v = .slice (some ⟨b, o, none⟩) ps.length cap ∧ w.cell? ⟨b, o + i * 3, none⟩ = some (.int .i64 p.1) ∧ w.cell? ⟨b, o + i * 3 + 1, none⟩ = some (.int .i64 p.2.1) ∧ w.cell? ⟨b, o + i * 3 + 2, none⟩ = some (.int .i64 p.2.2) := by
  obtain ⟨b, o, cap, e, hc⟩ := row_get 3 meetC meetC_len (by omega) h hp
  exact ⟨b, o, cap, e, hc 0 _ rfl, hc 1 _ rfl, hc 2 _ rfl⟩
theorem MeetO.cells {w : World} {lo hi g cap n : Nat} {ps : List MeetD} (h : MeetO w lo hi (.slice (some ⟨g, 0, none⟩) n cap) ps) {i : Nat} {p : MeetD} (hp : ps[i]? = some p) :
    w.cell? ⟨g, i * 3, none⟩ = some (.int .i64 p.1) ∧ w.cell? ⟨g, i * 3 + 1, none⟩ = some (.int .i64 p.2.1) ∧ w.cell? ⟨g, i * 3 + 2, none⟩ = some (.int .i64 p.2.2) ∧ ∀ o, w.frozen? ⟨g, o, none⟩ = false := by
  obtain ⟨hc, hf⟩ := own_get 3 meetC meetC_len (by omega) h hp
  exact ⟨hc 0 _ rfl, hc 1 _ rfl, hc 2 _ rfl, hf⟩
theorem MeetO.set {w : World} {lo hi g cap n : Nat} {ps : List MeetD} (h : MeetO w lo hi (.slice (some ⟨g, 0, none⟩) n cap) ps) (hn : n = ps.length) {i : Nat} {p q : MeetD} (hp : ps[i]? = some p) (j : Nat) (hj : j < 3) (u : Value) (hu : (meetC p).set j u = meetC q) :
    MeetO (w.setCell ⟨g, i * 3 + j, none⟩ u) lo hi (.slice (some ⟨g, 0, none⟩) n cap) (ps.set i q) := by
  subst hn
  have := RowO.set h (i * 3 + j) u
  unfold MeetO
  rw [List.length_set]
  rw [Nat.mul_comm i 3] at this ⊢
  rw [flat_set 3 meetC meetC_len ps i j p q u hp hj hu] at this
  exact this
/-- An element of a row's own set anew, field by field. -/
theorem MeetO.store {w : World} {lo hi g cap n : Nat} {ps : List MeetD} (h : MeetO w lo hi (.slice (some ⟨g, 0, none⟩) n cap) ps) (hn : n = ps.length) {i : Nat} {p : MeetD} (hp : ps[i]? = some p) (q : MeetD) :
    (w.setCell ⟨g, i * 3, none⟩ (.int .i64 q.1)).cell? ⟨g, i * 3 + 1, none⟩ = some (.int .i64 p.2.1) ∧
    ((w.setCell ⟨g, i * 3, none⟩ (.int .i64 q.1)).setCell ⟨g, i * 3 + 1, none⟩ (.int .i64 q.2.1)).cell? ⟨g, i * 3 + 2, none⟩ = some (.int .i64 p.2.2) ∧
    MeetO (((w.setCell ⟨g, i * 3, none⟩ (.int .i64 q.1)).setCell ⟨g, i * 3 + 1, none⟩ (.int .i64 q.2.1)).setCell ⟨g, i * 3 + 2, none⟩ (.int .i64 q.2.2)) lo hi (.slice (some ⟨g, 0, none⟩) n cap) (ps.set i q) := by
  have hi' : i < ps.length := (List.getElem?_eq_some_iff.1 hp).1
  have h1 := h.set (by simpa using hn) hp 0 (by omega) (.int .i64 q.1) (q := (q.1, p.2)) rfl
  have g1 : (ps.set i (q.1, p.2))[i]? = some (q.1, p.2) := by simp [hi']
  have h2 := h1.set (by simpa using hn) g1 1 (by omega) (.int .i64 q.2.1) (q := (q.1, q.2.1, p.2.2)) rfl
  have g2 : ((ps.set i (q.1, p.2)).set i (q.1, q.2.1, p.2.2))[i]? = some (q.1, q.2.1, p.2.2) := by simp [hi']
  have h3 := h2.set (by simpa using hn) g2 2 (by omega) (.int .i64 q.2.2) (q := q) rfl
  refine ⟨(h1.cells g1).2.1, (h2.cells g2).2.2.1, by simpa using h3⟩

end Go.Proofs.Ytfibikkbhbmfkaa
