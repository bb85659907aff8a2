/-
  Music as plain data: weighed, copied, compared.
-/
import Derived.Test.YtapfafibhjpkdaaDoorRows
import Derived.Test.YtapfafibhjpkdaaDoorBase
import Derived.Test.YtapfafibhjpkdaaDoorLeaf15
namespace Go.Proofs.YtapfafibhjpkdaaDoor
open Go.ChangeShapes Go.WideShapes Go.ChangeAt Go.RowKit

set_option maxRecDepth 100000
set_option linter.unusedVariables false
abbrev MusicD := ByteArray × Int × ByteArray
def musicC (p : MusicD) : List Value := [.string p.1, .int .i64 p.2.1, .string p.2.2]
theorem musicC_len (p : MusicD) : (musicC p).length = 3 := rfl
def music0 : MusicD := (ByteArray.empty, 0, ByteArray.empty)
def MusicAt (w : World) (v : Value) (ps : List MusicD) : Prop := RowAt w v ps.length (ps.flatMap musicC)
def MusicO (w : World) (lo hi : Nat) (v : Value) (ps : List MusicD) : Prop := RowO w lo hi 27 3 v ps.length (ps.flatMap musicC)
theorem MusicAt.kept {w w' : World} {v : Value} {ps : List MusicD} (h : MusicAt w v ps) (k : Kept w w') : MusicAt w' v ps := RowAt.kept h k
theorem MusicO.kept {w w' : World} {lo hi : Nat} {v : Value} {ps : List MusicD} (h : MusicO w lo hi v ps) (k : Kept w w') : MusicO w' lo hi v ps := RowO.kept h k
theorem MusicO.but {w w' : World} {lo hi lo' hi' : Nat} {v : Value} {ps : List MusicD} (h : MusicO w lo hi v ps) (k : But lo' hi' w w') (ho : hi ≤ lo' ∨ hi' ≤ lo) : MusicO w' lo hi v ps := RowO.but h k ho
theorem MusicO.mono {w : World} {lo hi lo' hi' : Nat} {v : Value} {ps : List MusicD} (h : MusicO w lo hi v ps) (h1 : lo' ≤ lo) (h2 : hi ≤ hi') : MusicO w lo' hi' v ps := RowO.mono h h1 h2
theorem MusicO.low {w : World} {lo hi : Nat} {v : Value} {ps : List MusicD} (h : MusicO w lo hi v ps) : MusicO w lo w.heap.size v ps := RowO.low h
theorem MusicO.at {w : World} {lo hi : Nat} {v : Value} {ps : List MusicD} (h : MusicO w lo hi v ps) : MusicAt w v ps := own_row h.1
theorem MusicO.form {w : World} {lo hi : Nat} {v : Value} {ps : List MusicD} (h : MusicO w lo hi v ps) : ∃ ao cap, v = .slice ao ps.length cap := by
  obtain ⟨ao, cap, e, _⟩ := own_form h.1
  exact ⟨ao, cap, e⟩
theorem music_get {w : World} {v : Value} {ps : List MusicD} (h : MusicAt w v ps) {i : Nat} {p : MusicD} (hp : ps[i]? = some p) :
    ∃ b o cap, v = .slice (some ⟨b, o, none⟩) ps.length cap ∧ w.cell? ⟨b, o + i * 3, none⟩ = some (.string p.1) ∧ w.cell? ⟨b, o + i * 3 + 1, none⟩ = some (.int .i64 p.2.1) ∧ w.cell? ⟨b, o + i * 3 + 2, none⟩ = some (.string p.2.2) := by
  obtain ⟨b, o, cap, e, hc⟩ := row_get 3 musicC musicC_len (by omega) h hp
  exact ⟨b, o, cap, e, hc 0 _ rfl, hc 1 _ rfl, hc 2 _ rfl⟩
theorem MusicO.cells {w : World} {lo hi g cap n : Nat} {ps : List MusicD} (h : MusicO w lo hi (.slice (some ⟨g, 0, none⟩) n cap) ps) {i : Nat} {p : MusicD} (hp : ps[i]? = some p) :
    w.cell? ⟨g, i * 3, none⟩ = some (.string p.1) ∧ w.cell? ⟨g, i * 3 + 1, none⟩ = some (.int .i64 p.2.1) ∧ w.cell? ⟨g, i * 3 + 2, none⟩ = some (.string p.2.2) ∧ ∀ o, w.frozen? ⟨g, o, none⟩ = false := by
  obtain ⟨hc, hf⟩ := own_get 3 musicC musicC_len (by omega) h hp
  exact ⟨hc 0 _ rfl, hc 1 _ rfl, hc 2 _ rfl, hf⟩
theorem MusicO.set {w : World} {lo hi g cap n : Nat} {ps : List MusicD} (h : MusicO w lo hi (.slice (some ⟨g, 0, none⟩) n cap) ps) (hn : n = ps.length) {i : Nat} {p q : MusicD} (hp : ps[i]? = some p) (j : Nat) (hj : j < 3) (u : Value) (hu : (musicC p).set j u = musicC q) :
    MusicO (w.setCell ⟨g, i * 3 + j, none⟩ u) lo hi (.slice (some ⟨g, 0, none⟩) n cap) (ps.set i q) := by
  subst hn
  have := RowO.set h (i * 3 + j) u
  unfold MusicO
  rw [List.length_set]
  rw [Nat.mul_comm i 3] at this ⊢
  rw [flat_set 3 musicC musicC_len ps i j p q u hp hj hu] at this
  exact this
/-- An element of a row's own set anew, field by field. -/
theorem MusicO.store {w : World} {lo hi g cap n : Nat} {ps : List MusicD} (h : MusicO w lo hi (.slice (some ⟨g, 0, none⟩) n cap) ps) (hn : n = ps.length) {i : Nat} {p : MusicD} (hp : ps[i]? = some p) (q : MusicD) :
    (w.setCell ⟨g, i * 3, none⟩ (.string q.1)).cell? ⟨g, i * 3 + 1, none⟩ = some (.int .i64 p.2.1) ∧
    ((w.setCell ⟨g, i * 3, none⟩ (.string q.1)).setCell ⟨g, i * 3 + 1, none⟩ (.int .i64 q.2.1)).cell? ⟨g, i * 3 + 2, none⟩ = some (.string p.2.2) ∧
    MusicO (((w.setCell ⟨g, i * 3, none⟩ (.string q.1)).setCell ⟨g, i * 3 + 1, none⟩ (.int .i64 q.2.1)).setCell ⟨g, i * 3 + 2, none⟩ (.string q.2.2)) lo hi (.slice (some ⟨g, 0, none⟩) n cap) (ps.set i q) := by
  have hi' : i < ps.length := (List.getElem?_eq_some_iff.1 hp).1
  have h1 := h.set (by simpa using hn) hp 0 (by omega) (.string q.1) (q := (q.1, p.2)) rfl
  have g1 : (ps.set i (q.1, p.2))[i]? = some (q.1, p.2) := by simp [hi']
  have h2 := h1.set (by simpa using hn) g1 1 (by omega) (.int .i64 q.2.1) (q := (q.1, q.2.1, p.2.2)) rfl
  have g2 : ((ps.set i (q.1, p.2)).set i (q.1, q.2.1, p.2.2))[i]? = some (q.1, q.2.1, p.2.2) := by simp [hi']
  have h3 := h2.set (by simpa using hn) g2 2 (by omega) (.string q.2.2) (q := q) rfl
  refine ⟨(h1.cells g1).2.1, (h2.cells g2).2.2.1, by simpa using h3⟩

theorem toMusic (f0 : ByteArray) (f1 : Int) (f2 : ByteArray) (w : World) :
    Calls Tryd.prog 8 #[.agg #[.string f0, .int .i64 f1, .string f2]] w fun e w' => e = .returned (.agg #[.string f0, .int .i64 f1, .string f2]) ∧ Kept w w' := by
  go_enter Tryd.func8, Tryd.ntmps8
  go_wp2
  refine bodyPost_ret (v := .agg #[.string f0, .int .i64 f1, .string f2]) (by simp [results, Tryd.results8, go_sem]) rfl ?_
  exact ⟨rfl, (((But.refl _ _ _).alloc _).alloc _).alloc _⟩

theorem eqMusic (f0 : ByteArray) (f1 : Int) (f2 : ByteArray) (w : World) :
    Calls Tryd.prog 10 #[.agg #[.string f0, .int .i64 f1, .string f2], .agg #[.string f0, .int .i64 f1, .string f2]] w fun e w' => e = .returned (.bool true) ∧ Kept w w' := by
  go_enter Tryd.func10, Tryd.ntmps10
  go_wp2
  go_ret
  exact ⟨rfl, ((But.refl _ _ _).alloc _).alloc _⟩

set_option maxHeartbeats 1000000 in
theorem szMusic (m0 : ByteArray) (m1 : Int) (m2 : ByteArray) (left : Int) (w : World) (hl : 0 ≤ left) (hm : left ≤ 1048576) (h0 : m0.size ≤ 9223372036854775807) (h2 : m2.size ≤ 9223372036854775807) :
    Calls Tryd.prog 5 #[.agg #[.string m0, .int .i64 m1, .string m2], .int .i64 left] w fun e w' => e = .returned (.int .i64 (leftOf left (m0.size + m2.size))) ∧ Kept w w' := by
  by_cases h1 : left < (m0.size : Int)
  · have d1 : decide (left - (m0.size : Int) < 0) = true := by simp; omega
    go_enter Tryd.func5, Tryd.ntmps5
    go_wp2
    go_ret
    exact ⟨ret_int (leftOf_no (by omega)).symm, (But.refl _ _ _).alloc _⟩
  · have d1 : decide (left - (m0.size : Int) < 0) = false := by simp; omega
    by_cases h3 : left - (m0.size : Int) < (m2.size : Int)
    · have d2 : decide (left - (m0.size : Int) - (m2.size : Int) < 0) = true := by simp; omega
      go_enter Tryd.func5, Tryd.ntmps5
      go_wp2
      go_ret
      exact ⟨ret_int (leftOf_no (by omega)).symm, (But.refl _ _ _).alloc _⟩
    · have d2 : decide (left - (m0.size : Int) - (m2.size : Int) < 0) = false := by simp; omega
      go_enter Tryd.func5, Tryd.ntmps5
      go_wp2
      go_ret
      exact ⟨ret_int (by rw [leftOf_yes (by omega)]; omega), (But.refl _ _ _).alloc _⟩

end Go.Proofs.YtapfafibhjpkdaaDoor
