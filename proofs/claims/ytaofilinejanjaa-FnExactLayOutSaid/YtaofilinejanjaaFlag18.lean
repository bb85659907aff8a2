/-
  Lists of flags: how they lie in memory.
-/
import Derived.Test.YtaofilinejanjaaRows
import Derived.Test.YtaofilinejanjaaBase
import Derived.Test.YtaofilinejanjaaText
namespace Go.Proofs.Ytaofilinejanjaa
open Go.ChangeShapes Go.WideShapes Go.ChangeAt Go.RowKit
abbrev FlagD := Bool
def flagC (p : FlagD) : List Value := [.bool p]
theorem flagC_len (p : FlagD) : (flagC p).length = 1 := rfl
def flag0 : FlagD := (false)
def FlagAt (w : World) (v : Value) (ps : List FlagD) : Prop := RowAt w v ps.length (ps.flatMap flagC)
def FlagO (w : World) (lo hi : Nat) (v : Value) (ps : List FlagD) : Prop := RowO w lo hi 4 1 v ps.length (ps.flatMap flagC)
theorem FlagAt.kept {w w' : World} {v : Value} {ps : List FlagD} (h : FlagAt w v ps) (k : Kept w w') : FlagAt w' v ps := RowAt.kept h k
theorem FlagO.kept {w w' : World} {lo hi : Nat} {v : Value} {ps : List FlagD} (h : FlagO w lo hi v ps) (k : Kept w w') : FlagO w' lo hi v ps := RowO.kept h k
theorem FlagO.but {w w' : World} {lo hi lo' hi' : Nat} {v : Value} {ps : List FlagD} (h : FlagO w lo hi v ps) (k : But lo' hi' w w') (ho : hi ≤ lo' ∨ hi' ≤ lo) : FlagO w' lo hi v ps := RowO.but h k ho
theorem FlagO.mono {w : World} {lo hi lo' hi' : Nat} {v : Value} {ps : List FlagD} (h : FlagO w lo hi v ps) (h1 : lo' ≤ lo) (h2 : hi ≤ hi') : FlagO w lo' hi' v ps := RowO.mono h h1 h2
theorem FlagO.low {w : World} {lo hi : Nat} {v : Value} {ps : List FlagD} (h : FlagO w lo hi v ps) : FlagO w lo w.heap.size v ps := RowO.low h
theorem FlagO.at {w : World} {lo hi : Nat} {v : Value} {ps : List FlagD} (h : FlagO w lo hi v ps) : FlagAt w v ps := own_row h.1
theorem FlagO.form {w : World} {lo hi : Nat} {v : Value} {ps : List FlagD} (h : FlagO w lo hi v ps) : ∃ ao cap, v = .slice ao ps.length cap := by
  obtain ⟨ao, cap, e, _⟩ := own_form h.1
  exact ⟨ao, cap, e⟩

theorem flag_get {w : World} {v : Value} {ps : List FlagD} (h : FlagAt w v ps) {i : Nat} {p : FlagD} (hp : ps[i]? = some p) :
    ∃ b o cap, v = .slice (some ⟨b, o, none⟩) ps.length cap ∧ w.cell? ⟨b, o + i, none⟩ = some (.bool p) := by
  obtain ⟨b, o, cap, e, hc⟩ := row_get 1 flagC flagC_len (by omega) h hp
  exact ⟨b, o, cap, e, by have := hc 0 _ rfl; simpa using this⟩
theorem FlagO.cells {w : World} {lo hi g cap n : Nat} {ps : List FlagD} (h : FlagO w lo hi (.slice (some ⟨g, 0, none⟩) n cap) ps) {i : Nat} {p : FlagD} (hp : ps[i]? = some p) :
    w.cell? ⟨g, i, none⟩ = some (.bool p) ∧ ∀ o, w.frozen? ⟨g, o, none⟩ = false := by
  obtain ⟨hc, hf⟩ := own_get 1 flagC flagC_len (by omega) h hp
  exact ⟨by have := hc 0 _ rfl; simpa using this, hf⟩
theorem FlagO.set {w : World} {lo hi g cap n : Nat} {ps : List FlagD} (h : FlagO w lo hi (.slice (some ⟨g, 0, none⟩) n cap) ps) (hn : n = ps.length) {i : Nat} {p : FlagD} (hp : ps[i]? = some p) (q : Bool) :
    FlagO (w.setCell ⟨g, i, none⟩ (.bool q)) lo hi (.slice (some ⟨g, 0, none⟩) n cap) (ps.set i q) := by
  subst hn
  have := RowO.set h (i * 1 + 0) (.bool q)
  unfold FlagO
  rw [List.length_set]
  rw [Nat.mul_comm i 1] at this
  rw [flat_set 1 flagC flagC_len ps i 0 p q (.bool q) hp (by omega) rfl] at this
  simpa using this
theorem info_flag : (Try.prog.info? 4).map (fun i => (i.zero, i.size, i.bytes)) = some (some (.bool false), 1, 1) := by kernel_rfl

end Go.Proofs.Ytaofilinejanjaa
