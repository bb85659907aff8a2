/-
  DERIVED. GIVEN WITH THE SEED: THE CARDS: each row of YtklgjhemcofhhaaDoorRows.lean that lists a variable, with what it lists TIED to the program's text (the seventh form; the later family's looks); each row that meets fmt, with fmt's text TOLD by the authors' own Lean function (tested against real Go, not proved from fmt's source: count such statements apart). THE CARD IS WHAT COUNTS. Prove the row's statement (the work); the ties are given (YtklgjhemcofhhaaDoorTie.lean); close each card by the builder's one call (the guide's Derived/Test/ToyasCard.lean, 'card_holds'). Laid BY PROGRAM, IN A SANDBOX (cutbox-door.mjs). By AI agents, Wed Nov 11 2026. No macro, syntax, notation, axiom, sorry.
-/
import Derived.Test.YtklgjhemcofhhaaDoorRows
import GoSem.ClaimSeven
namespace Go.Proofs.YtklgjhemcofhhaaDoor
namespace Rows

/-- THE TIED CARD OF 'laws.FnExactReadSave'. -/
def fnExactReadSaveCard : Claim7 := { stood := { row := fnExactReadSaveRow, standIns := [], harness := (true, "b078833b5765a7b8be23ca197234fefb4258d450803e0e6a677b60170c787a0a"), looks := true }, kinds := [], alts := [], laidByText := true, laidKinds := [.handle, .sentinel, .sentinel, .sentinel, .sentinel, .sentinel, .sentinel], laidTests := true, laidLooks := .later }
def FnExactReadSaveCardSaid : Prop := Claim7.holds Tryd.pinned (.plain (OpenSpec.ofChange fnExactReadSaveSpec)) fnExactReadSaveCard

/-- THE TIED CARD OF 'laws.FnExactMigrateSave'. -/
def fnExactMigrateSaveCard : Claim7 := { stood := { row := fnExactMigrateSaveRow, standIns := [], harness := (true, "b078833b5765a7b8be23ca197234fefb4258d450803e0e6a677b60170c787a0a"), looks := true }, kinds := [], alts := [], laidByText := true, laidKinds := [.sentinel, .sentinel, .sentinel, .sentinel], laidTests := true, laidLooks := .later }
def FnExactMigrateSaveCardSaid : Prop := Claim7.holds Tryd.pinned (.plain (OpenSpec.ofChange fnExactMigrateSaveSpec)) fnExactMigrateSaveCard

/-- THE SECOND FORM's CARD OF 'laws.FnExactReadSave'. -/
def fnExactReadSaveUptoCard : Claim7 := { stood := { row := fnExactReadSaveUptoRow, standIns := [], harness := (true, "b078833b5765a7b8be23ca197234fefb4258d450803e0e6a677b60170c787a0a"), looks := true }, kinds := [], alts := [], laidByText := true, laidKinds := [.handle, .sentinel, .sentinel, .sentinel, .sentinel, .sentinel, .sentinel], laidTests := true, laidLooks := .later }
def FnExactReadSaveUptoCardSaid : Prop := Claim7.holds Tryd.pinned (.plain (OpenSpec.upto fnExactReadSaveSpec)) fnExactReadSaveUptoCard

/-- THE SECOND FORM's CARD OF 'laws.FnExactMigrateSave'. -/
def fnExactMigrateSaveUptoCard : Claim7 := { stood := { row := fnExactMigrateSaveUptoRow, standIns := [], harness := (true, "b078833b5765a7b8be23ca197234fefb4258d450803e0e6a677b60170c787a0a"), looks := true }, kinds := [], alts := [], laidByText := true, laidKinds := [.sentinel, .sentinel, .sentinel, .sentinel], laidTests := true, laidLooks := .later }
def FnExactMigrateSaveUptoCardSaid : Prop := Claim7.holds Tryd.pinned (.plain (OpenSpec.upto fnExactMigrateSaveSpec)) fnExactMigrateSaveUptoCard
end Rows
end Go.Proofs.YtklgjhemcofhhaaDoor
