/-
  Rows of bytes that are alike, as texts.
-/
import Derived.Test.YtipgffikmnebnaaPatP21
import Derived.Test.YtipgffikmnebnaaQuiet
import Derived.Laws.IdiomStrings
import Derived.Laws.BytesString
namespace Go.Proofs.Ytipgffikmnebnaa
open Go.ChangeShapes Go.WideShapes Go.ChangeAt Go.RowKit

set_option maxRecDepth 100000
set_option linter.unusedVariables false
set_option linter.unusedSimpArgs false

theorem conv_byt {w : World} {ao : Option Addr} {n cap : Nat} {l : List UInt8} (h : BytAt w (.slice ao n cap) l) (hn : n = l.length) : (convert 22 9 (.slice ao n cap)).run Try.prog w = .ok (.string ⟨l.toArray⟩) w := by
  subst hn
  cases l with
  | nil =>
    cases ao with
    | some a => exact run_convert_bytes_back w 22 9 5 a cap [] Try.underlying22 Try.underlying5 Try.underlying9 fun j hj => by simp at hj
    | none =>
      rw [run_convert_bytes_string w 22 9 5 none _ cap Try.underlying22 Try.underlying5 Try.underlying9]
      rfl
  | cons c t =>
    obtain ⟨b, o, cap', e, _⟩ := byt_get h (i := 0) rfl
    cases e
    refine run_convert_bytes_back w 22 9 5 ⟨b, o, none⟩ cap (c :: t) Try.underlying22 Try.underlying5 Try.underlying9 fun j hj => ?_
    obtain ⟨b', o', cap'', e, hc⟩ := byt_get h (i := j) (List.getElem?_eq_getElem hj)
    cases e
    simpa [Go.WideShapes.add_plain] using hc
theorem same_bytes (l : List UInt8) (a1 a2 : Option Addr) (c1 c2 : Nat) (w : World) (h1 : BytAt w (.slice a1 l.length c1) l) (h2 : BytAt w (.slice a2 l.length c2) l) :
    Calls Try.prog 25 #[.slice a1 l.length c1, .slice a2 l.length c2] w fun e w' => e = .returned (.bool true) ∧ Kept w w' := by
  have k1 := conv_byt h1 rfl
  have k2 := conv_byt h2 rfl
  go_enter Try.func25, Try.ntmps25
  repeat (first | go_values | go_skip | go_guarded | go_step | go_upon)
  go_ret
  exact ⟨rfl, But.refl _ _ _⟩

end Go.Proofs.Ytipgffikmnebnaa
