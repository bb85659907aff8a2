/-
  DERIVED. GIVEN WITH THE SEED: THE CARDS: each row of YtoimpkhgdpkhkaaDoorRows.lean that lists a variable, with what it lists TIED to the program's text (the seventh form; the later family's looks); each row that meets fmt, with fmt's text TOLD by the authors' own Lean function (tested against real Go, not proved from fmt's source: count such statements apart). THE CARD IS WHAT COUNTS. Prove the row's statement (the work); the ties are given (YtoimpkhgdpkhkaaDoorTie.lean); close each card by the builder's one call (the guide's Derived/Test/ToyasCard.lean, 'card_holds'). Laid BY PROGRAM, IN A SANDBOX (cutbox-door.mjs). By AI agents, Wed Nov 11 2026. No macro, syntax, notation, axiom, sorry.
-/
import Derived.Test.YtoimpkhgdpkhkaaDoorRows
import GoSem.ClaimSeven
namespace Go.Proofs.YtoimpkhgdpkhkaaDoor
namespace Rows

/-- THE TIED CARD OF 'laws.FnLots'. -/
def fnLotsCard : Claim7 := { stood := { row := fnLotsRow, standIns := [], harness := (true, "1a8ffa2f0d0814a1bdf14bc4a5b45dc7dfcf7101f78dd4b0dda7a3154137368a"), looks := false }, kinds := [], alts := [], laidByText := true, laidKinds := [.data], laidTests := true, laidLooks := .later }
def FnLotsCardSaid : Prop := Claim7.holds Tryd.pinned (.plain (OpenSpec.ofChange fnLotsSpec)) fnLotsCard

/-- THE TIED CARD OF 'laws.FnExactSortKey'. -/
def fnExactSortKeyCard : Claim7 := { stood := { row := fnExactSortKeyRow, standIns := [], harness := (true, "1a8ffa2f0d0814a1bdf14bc4a5b45dc7dfcf7101f78dd4b0dda7a3154137368a"), looks := false }, kinds := [], alts := [], laidByText := true, laidKinds := [.data], laidTests := true, laidLooks := .later }
def FnExactSortKeyCardSaid : Prop := Claim7.holds Tryd.pinned (.plain (OpenSpec.ofChange fnExactSortKeySpec)) fnExactSortKeyCard

/-- THE TIED CARD OF 'laws.FnExactKeyParts'. -/
def fnExactKeyPartsCard : Claim7 := { stood := { row := fnExactKeyPartsRow, standIns := [], harness := (true, "1a8ffa2f0d0814a1bdf14bc4a5b45dc7dfcf7101f78dd4b0dda7a3154137368a"), looks := false }, kinds := [], alts := [], laidByText := true, laidKinds := [.data], laidTests := true, laidLooks := .later }
def FnExactKeyPartsCardSaid : Prop := Claim7.holds Tryd.pinned (.plain (OpenSpec.ofChange fnExactKeyPartsSpec)) fnExactKeyPartsCard

/-- THE TIED CARD OF 'laws.FnExactLotsOf'. -/
def fnExactLotsOfCard : Claim7 := { stood := { row := fnExactLotsOfRow, standIns := [], harness := (true, "1a8ffa2f0d0814a1bdf14bc4a5b45dc7dfcf7101f78dd4b0dda7a3154137368a"), looks := false }, kinds := [], alts := [], laidByText := true, laidKinds := [.data], laidTests := true, laidLooks := .later }
def FnExactLotsOfCardSaid : Prop := Claim7.holds Tryd.pinned (.plain (OpenSpec.ofChange fnExactLotsOfSpec)) fnExactLotsOfCard

/-- THE SECOND FORM's CARD OF 'laws.FnLots'. -/
def fnLotsUptoCard : Claim7 := { stood := { row := fnLotsUptoRow, standIns := [], harness := (true, "1a8ffa2f0d0814a1bdf14bc4a5b45dc7dfcf7101f78dd4b0dda7a3154137368a"), looks := false }, kinds := [], alts := [], laidByText := true, laidKinds := [.data], laidTests := true, laidLooks := .later }
def FnLotsUptoCardSaid : Prop := Claim7.holds Tryd.pinned (.plain (OpenSpec.upto fnLotsSpec)) fnLotsUptoCard

/-- THE SECOND FORM's CARD OF 'laws.FnExactSortKey'. -/
def fnExactSortKeyUptoCard : Claim7 := { stood := { row := fnExactSortKeyUptoRow, standIns := [], harness := (true, "1a8ffa2f0d0814a1bdf14bc4a5b45dc7dfcf7101f78dd4b0dda7a3154137368a"), looks := false }, kinds := [], alts := [], laidByText := true, laidKinds := [.data], laidTests := true, laidLooks := .later }
def FnExactSortKeyUptoCardSaid : Prop := Claim7.holds Tryd.pinned (.plain (OpenSpec.upto fnExactSortKeySpec)) fnExactSortKeyUptoCard

/-- THE SECOND FORM's CARD OF 'laws.FnExactKeyParts'. -/
def fnExactKeyPartsUptoCard : Claim7 := { stood := { row := fnExactKeyPartsUptoRow, standIns := [], harness := (true, "1a8ffa2f0d0814a1bdf14bc4a5b45dc7dfcf7101f78dd4b0dda7a3154137368a"), looks := false }, kinds := [], alts := [], laidByText := true, laidKinds := [.data], laidTests := true, laidLooks := .later }
def FnExactKeyPartsUptoCardSaid : Prop := Claim7.holds Tryd.pinned (.plain (OpenSpec.upto fnExactKeyPartsSpec)) fnExactKeyPartsUptoCard

/-- THE SECOND FORM's CARD OF 'laws.FnExactLotsOf'. -/
def fnExactLotsOfUptoCard : Claim7 := { stood := { row := fnExactLotsOfUptoRow, standIns := [], harness := (true, "1a8ffa2f0d0814a1bdf14bc4a5b45dc7dfcf7101f78dd4b0dda7a3154137368a"), looks := false }, kinds := [], alts := [], laidByText := true, laidKinds := [.data], laidTests := true, laidLooks := .later }
def FnExactLotsOfUptoCardSaid : Prop := Claim7.holds Tryd.pinned (.plain (OpenSpec.upto fnExactLotsOfSpec)) fnExactLotsOfUptoCard
end Rows
end Go.Proofs.YtoimpkhgdpkhkaaDoor
