/-
  Lists of texts: how they lie in memory.
-/
import Derived.Test.YtklgjhemcofhhaaDoorRows
import Derived.Test.YtklgjhemcofhhaaDoorBase
import Derived.Test.YtklgjhemcofhhaaDoorText
import Derived.Deep.QuietTactic
namespace Go.Proofs.YtklgjhemcofhhaaDoor
open Go.ChangeShapes Go.WideShapes Go.ChangeAt Go.RowKit
set_option maxRecDepth 100000
abbrev TxtD := ByteArray
def txtC (p : TxtD) : List Value := [.string p]
theorem txtC_len (p : TxtD) : (txtC p).length = 1 := rfl
def txt0 : TxtD := (ByteArray.empty)
def TxtAt (w : World) (v : Value) (ps : List TxtD) : Prop := RowAt w v ps.length (ps.flatMap txtC)
def TxtO (w : World) (lo hi : Nat) (v : Value) (ps : List TxtD) : Prop := RowO w lo hi 9 1 v ps.length (ps.flatMap txtC)
theorem TxtAt.kept {w w' : World} {v : Value} {ps : List TxtD} (h : TxtAt w v ps) (k : Kept w w') : TxtAt w' v ps := RowAt.kept h k
theorem TxtO.kept {w w' : World} {lo hi : Nat} {v : Value} {ps : List TxtD} (h : TxtO w lo hi v ps) (k : Kept w w') : TxtO w' lo hi v ps := RowO.kept h k
theorem TxtO.but {w w' : World} {lo hi lo' hi' : Nat} {v : Value} {ps : List TxtD} (h : TxtO w lo hi v ps) (k : But lo' hi' w w') (ho : hi ≤ lo' ∨ hi' ≤ lo) : TxtO w' lo hi v ps := RowO.but h k ho
theorem TxtO.mono {w : World} {lo hi lo' hi' : Nat} {v : Value} {ps : List TxtD} (h : TxtO w lo hi v ps) (h1 : lo' ≤ lo) (h2 : hi ≤ hi') : TxtO w lo' hi' v ps := RowO.mono h h1 h2
theorem TxtO.low {w : World} {lo hi : Nat} {v : Value} {ps : List TxtD} (h : TxtO w lo hi v ps) : TxtO w lo w.heap.size v ps := RowO.low h
theorem TxtO.at {w : World} {lo hi : Nat} {v : Value} {ps : List TxtD} (h : TxtO w lo hi v ps) : TxtAt w v ps := own_row h.1
theorem TxtO.form {w : World} {lo hi : Nat} {v : Value} {ps : List TxtD} (h : TxtO w lo hi v ps) : ∃ ao cap, v = .slice ao ps.length cap := by
  obtain ⟨ao, cap, e, _⟩ := own_form h.1
  exact ⟨ao, cap, e⟩

theorem txt_get {w : World} {v : Value} {ps : List TxtD} (h : TxtAt w v ps) {i : Nat} {p : TxtD} (hp : ps[i]? = some p) :
    ∃ b o cap, v = .slice (some ⟨b, o, none⟩) ps.length cap ∧ w.cell? ⟨b, o + i, none⟩ = some (.string p) := by
  obtain ⟨b, o, cap, e, hc⟩ := row_get 1 txtC txtC_len (by omega) h hp
  exact ⟨b, o, cap, e, by have := hc 0 _ rfl; simpa using this⟩
theorem TxtO.cells {w : World} {lo hi g cap n : Nat} {ps : List TxtD} (h : TxtO w lo hi (.slice (some ⟨g, 0, none⟩) n cap) ps) {i : Nat} {p : TxtD} (hp : ps[i]? = some p) :
    w.cell? ⟨g, i, none⟩ = some (.string p) ∧ ∀ o, w.frozen? ⟨g, o, none⟩ = false := by
  obtain ⟨hc, hf⟩ := own_get 1 txtC txtC_len (by omega) h hp
  exact ⟨by have := hc 0 _ rfl; simpa using this, hf⟩
theorem TxtO.set {w : World} {lo hi g cap n : Nat} {ps : List TxtD} (h : TxtO w lo hi (.slice (some ⟨g, 0, none⟩) n cap) ps) (hn : n = ps.length) {i : Nat} {p : TxtD} (hp : ps[i]? = some p) (q : ByteArray) :
    TxtO (w.setCell ⟨g, i, none⟩ (.string q)) lo hi (.slice (some ⟨g, 0, none⟩) n cap) (ps.set i q) := by
  subst hn
  have := RowO.set h (i * 1 + 0) (.string q)
  unfold TxtO
  rw [List.length_set]
  rw [Nat.mul_comm i 1] at this
  rw [flat_set 1 txtC txtC_len ps i 0 p q (.string q) hp (by omega) rfl] at this
  simpa using this

theorem info9 : (Tryd.prog.info? 9).map (fun i => (i.zero, i.size, i.bytes)) = some (some (.string ByteArray.empty), 1, 16) := by kernel_rfl


end Go.Proofs.YtklgjhemcofhhaaDoor
