/-
  Lists of whole numbers: how they lie in memory, what the functions answer that copy and compare them, and what comes in.
-/
import Derived.Test.YtgbgnmjgnfocmaaDoorRows
import Derived.Test.YtgbgnmjgnfocmaaDoorBase
import Derived.Test.YtgbgnmjgnfocmaaDoorText
import Derived.Deep.QuietTactic
namespace Go.Proofs.YtgbgnmjgnfocmaaDoor
open Go.ChangeShapes Go.WideShapes Go.ChangeAt Go.RowKit
abbrev NumD := Int
def numC (p : NumD) : List Value := [.int .i64 p]
theorem numC_len (p : NumD) : (numC p).length = 1 := rfl
def num0 : NumD := (0)
def NumAt (w : World) (v : Value) (ps : List NumD) : Prop := RowAt w v ps.length (ps.flatMap numC)
def NumO (w : World) (lo hi : Nat) (v : Value) (ps : List NumD) : Prop := RowO w lo hi 3 1 v ps.length (ps.flatMap numC)
theorem NumAt.kept {w w' : World} {v : Value} {ps : List NumD} (h : NumAt w v ps) (k : Kept w w') : NumAt w' v ps := RowAt.kept h k
theorem NumO.kept {w w' : World} {lo hi : Nat} {v : Value} {ps : List NumD} (h : NumO w lo hi v ps) (k : Kept w w') : NumO w' lo hi v ps := RowO.kept h k
theorem NumO.but {w w' : World} {lo hi lo' hi' : Nat} {v : Value} {ps : List NumD} (h : NumO w lo hi v ps) (k : But lo' hi' w w') (ho : hi ≤ lo' ∨ hi' ≤ lo) : NumO w' lo hi v ps := RowO.but h k ho
theorem NumO.mono {w : World} {lo hi lo' hi' : Nat} {v : Value} {ps : List NumD} (h : NumO w lo hi v ps) (h1 : lo' ≤ lo) (h2 : hi ≤ hi') : NumO w lo' hi' v ps := RowO.mono h h1 h2
theorem NumO.low {w : World} {lo hi : Nat} {v : Value} {ps : List NumD} (h : NumO w lo hi v ps) : NumO w lo w.heap.size v ps := RowO.low h
theorem NumO.at {w : World} {lo hi : Nat} {v : Value} {ps : List NumD} (h : NumO w lo hi v ps) : NumAt w v ps := own_row h.1
theorem NumO.form {w : World} {lo hi : Nat} {v : Value} {ps : List NumD} (h : NumO w lo hi v ps) : ∃ ao cap, v = .slice ao ps.length cap := by
  obtain ⟨ao, cap, e, _⟩ := own_form h.1
  exact ⟨ao, cap, e⟩

theorem num_get {w : World} {v : Value} {ps : List NumD} (h : NumAt w v ps) {i : Nat} {p : NumD} (hp : ps[i]? = some p) :
    ∃ b o cap, v = .slice (some ⟨b, o, none⟩) ps.length cap ∧ w.cell? ⟨b, o + i, none⟩ = some (.int .i64 p) := by
  obtain ⟨b, o, cap, e, hc⟩ := row_get 1 numC numC_len (by omega) h hp
  exact ⟨b, o, cap, e, by have := hc 0 _ rfl; simpa using this⟩
theorem NumO.cells {w : World} {lo hi g cap n : Nat} {ps : List NumD} (h : NumO w lo hi (.slice (some ⟨g, 0, none⟩) n cap) ps) {i : Nat} {p : NumD} (hp : ps[i]? = some p) :
    w.cell? ⟨g, i, none⟩ = some (.int .i64 p) ∧ ∀ o, w.frozen? ⟨g, o, none⟩ = false := by
  obtain ⟨hc, hf⟩ := own_get 1 numC numC_len (by omega) h hp
  exact ⟨by have := hc 0 _ rfl; simpa using this, hf⟩
theorem NumO.set {w : World} {lo hi g cap n : Nat} {ps : List NumD} (h : NumO w lo hi (.slice (some ⟨g, 0, none⟩) n cap) ps) (hn : n = ps.length) {i : Nat} {p : NumD} (hp : ps[i]? = some p) (q : Int) :
    NumO (w.setCell ⟨g, i, none⟩ (.int .i64 q)) lo hi (.slice (some ⟨g, 0, none⟩) n cap) (ps.set i q) := by
  subst hn
  have := RowO.set h (i * 1 + 0) (.int .i64 q)
  unfold NumO
  rw [List.length_set]
  rw [Nat.mul_comm i 1] at this
  rw [flat_set 1 numC numC_len ps i 0 p q (.int .i64 q) hp (by omega) rfl] at this
  simpa using this

end Go.Proofs.YtgbgnmjgnfocmaaDoor
