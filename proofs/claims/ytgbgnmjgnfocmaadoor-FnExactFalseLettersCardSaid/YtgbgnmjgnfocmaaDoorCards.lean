/-
  DERIVED. GIVEN WITH THE SEED: THE CARDS: each row of YtgbgnmjgnfocmaaDoorRows.lean that lists a variable, with what it lists TIED to the program's text (the seventh form; the later family's looks); each row that meets fmt, with fmt's text TOLD by the authors' own Lean function (tested against real Go, not proved from fmt's source: count such statements apart). THE CARD IS WHAT COUNTS. Prove the row's statement (the work); the ties are given (YtgbgnmjgnfocmaaDoorTie.lean); close each card by the builder's one call (the guide's Derived/Test/ToyasCard.lean, 'card_holds'). Laid BY PROGRAM, IN A SANDBOX (cutbox-door.mjs). By AI agents, Wed Nov 11 2026. No macro, syntax, notation, axiom, sorry.
-/
import Derived.Test.YtgbgnmjgnfocmaaDoorRows
import GoSem.ClaimSeven
namespace Go.Proofs.YtgbgnmjgnfocmaaDoor
namespace Rows

/-- THE TIED CARD OF 'laws.FnExactFalseLetters'. -/
def fnExactFalseLettersCard : Claim7 := { stood := { row := fnExactFalseLettersRow, standIns := [], harness := (true, "b99d6ef340a6f844d4e95e2546ef0744ad1a38124ecda5f4571430cf89ee8863"), looks := false }, kinds := [], alts := [], laidByText := true, laidKinds := [.data, .pinned], laidTests := true, laidLooks := .later }
def FnExactFalseLettersCardSaid : Prop := Claim7.holds Tryd.pinned (.plain (OpenSpec.ofChange fnExactFalseLettersSpec)) fnExactFalseLettersCard

/-- THE SECOND FORM's CARD OF 'laws.FnExactFalseLetters'. -/
def fnExactFalseLettersUptoCard : Claim7 := { stood := { row := fnExactFalseLettersUptoRow, standIns := [], harness := (true, "b99d6ef340a6f844d4e95e2546ef0744ad1a38124ecda5f4571430cf89ee8863"), looks := false }, kinds := [], alts := [], laidByText := true, laidKinds := [.data, .pinned], laidTests := true, laidLooks := .later }
def FnExactFalseLettersUptoCardSaid : Prop := Claim7.holds Tryd.pinned (.plain (OpenSpec.upto fnExactFalseLettersSpec)) fnExactFalseLettersUptoCard
end Rows
end Go.Proofs.YtgbgnmjgnfocmaaDoor
