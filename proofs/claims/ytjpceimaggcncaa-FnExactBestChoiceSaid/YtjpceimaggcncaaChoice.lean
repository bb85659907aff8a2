/-
  Choices as plain data, and how lists of them lie in memory.
-/
import Derived.Test.YtjpceimaggcncaaRows
import Derived.Test.YtjpceimaggcncaaNum
namespace Go.Proofs.Ytjpceimaggcncaa
open Go.ChangeShapes Go.WideShapes Go.ChangeAt Go.RowKit

abbrev ChoiceE := ByteArray × (Value × List NumD) × Int
abbrev ChoiceD := ByteArray × List NumD × Int
def choiceC (p : ChoiceE) : List Value := [.string p.1, p.2.1.1, .int .i64 p.2.2]
theorem choiceC_len (p : ChoiceE) : (choiceC p).length = 3 := rfl
def stripChoice (p : ChoiceE) : ChoiceD := (p.1, p.2.1.2, p.2.2)
def choice0 : ChoiceE := (ByteArray.empty, (.slice none 0 0, []), 0)
def ChoiceAt (w : World) (v : Value) (ps : List ChoiceE) : Prop := RowAt w v ps.length (ps.flatMap choiceC) ∧ ∀ p ∈ ps, NumAt w p.2.1.1 p.2.1.2
theorem ChoiceAt.kept {w w' : World} {v : Value} {ps : List ChoiceE} (h : ChoiceAt w v ps) (k : Kept w w') : ChoiceAt w' v ps := ⟨RowAt.kept h.1 k, fun p hp => (h.2 p hp).kept k⟩
theorem choice_get {w : World} {v : Value} {ps : List ChoiceE} (h : ChoiceAt w v ps) {i : Nat} {p : ChoiceE} (hp : ps[i]? = some p) :
    ∃ b o cap, v = .slice (some ⟨b, o, none⟩) ps.length cap ∧ w.cell? ⟨b, o + i * 3, none⟩ = some (.string p.1) ∧ w.cell? ⟨b, o + i * 3 + 1, none⟩ = some (p.2.1.1) ∧ w.cell? ⟨b, o + i * 3 + 2, none⟩ = some (.int .i64 p.2.2) ∧ NumAt w p.2.1.1 p.2.1.2 := by
  obtain ⟨b, o, cap, e, hc⟩ := row_get 3 choiceC choiceC_len (by omega) h.1 hp
  exact ⟨b, o, cap, e, hc 0 _ rfl, hc 1 _ rfl, hc 2 _ rfl, h.2 p (List.mem_of_getElem? hp)⟩
/-- A row of its own, with lists of their own beside it. -/
def ChoiceO (w : World) (lo hi : Nat) (v : Value) (ps : List ChoiceE) : Prop := RowO w lo hi 95 3 v ps.length (ps.flatMap choiceC) ∧ ∀ p ∈ ps, NumO w lo hi p.2.1.1 p.2.1.2
theorem ChoiceO.kept {w w' : World} {lo hi : Nat} {v : Value} {ps : List ChoiceE} (h : ChoiceO w lo hi v ps) (k : Kept w w') : ChoiceO w' lo hi v ps := ⟨RowO.kept h.1 k, fun p hp => (h.2 p hp).kept k⟩
theorem ChoiceO.at {w : World} {lo hi : Nat} {v : Value} {ps : List ChoiceE} (h : ChoiceO w lo hi v ps) : ChoiceAt w v ps := ⟨own_row h.1.1, fun p hp => (h.2 p hp).at⟩
theorem ChoiceO.form {w : World} {lo hi : Nat} {v : Value} {ps : List ChoiceE} (h : ChoiceO w lo hi v ps) : ∃ ao cap, v = .slice ao ps.length cap := by
  obtain ⟨ao, cap, e, _⟩ := own_form h.1.1
  exact ⟨ao, cap, e⟩

end Go.Proofs.Ytjpceimaggcncaa
