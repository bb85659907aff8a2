/-
  DERIVED. GIVEN WITH THE SEED: THE CARDS: each row of YtocjgpmplmillaaDoorRows.lean that lists a variable, with what it lists TIED to the program's text (the seventh form; the later family's looks); each row that meets fmt, with fmt's text TOLD by the authors' own Lean function (tested against real Go, not proved from fmt's source: count such statements apart). THE CARD IS WHAT COUNTS. Prove the row's statement (the work); the ties are given (YtocjgpmplmillaaDoorTie.lean); close each card by the builder's one call (the guide's Derived/Test/ToyasCard.lean, 'card_holds'). Laid BY PROGRAM, IN A SANDBOX (cutbox-door.mjs). By AI agents, Wed Nov 11 2026. No macro, syntax, notation, axiom, sorry.
-/
import Derived.Test.YtocjgpmplmillaaDoorRows
import GoSem.ClaimSeven
namespace Go.Proofs.YtocjgpmplmillaaDoor
namespace Rows

/-- THE TIED CARD OF 'laws.FnRound'. -/
def fnRoundCard : Claim7 := { stood := { row := fnRoundRow, standIns := [], harness := (true, "16f142150e251f5b7a807395511ea9e6c2eac8210596b8d543622b255f5360c5"), looks := false }, kinds := [], alts := [], laidByText := true, laidKinds := [.data], laidTests := true, laidLooks := .later }
def FnRoundCardSaid : Prop := Claim7.holds Tryd.pinned (.plain (OpenSpec.ofChange fnRoundSpec)) fnRoundCard

/-- THE TIED CARD OF 'laws.FnExactSinOf'. -/
def fnExactSinOfCard : Claim7 := { stood := { row := fnExactSinOfRow, standIns := [], harness := (true, "16f142150e251f5b7a807395511ea9e6c2eac8210596b8d543622b255f5360c5"), looks := false }, kinds := [], alts := [], laidByText := true, laidKinds := [.data], laidTests := true, laidLooks := .later }
def FnExactSinOfCardSaid : Prop := Claim7.holds Tryd.pinned (.plain (OpenSpec.ofChange fnExactSinOfSpec)) fnExactSinOfCard

/-- THE TIED CARD OF 'laws.FnExactCosOf'. -/
def fnExactCosOfCard : Claim7 := { stood := { row := fnExactCosOfRow, standIns := [], harness := (true, "16f142150e251f5b7a807395511ea9e6c2eac8210596b8d543622b255f5360c5"), looks := false }, kinds := [], alts := [], laidByText := true, laidKinds := [.data], laidTests := true, laidLooks := .later }
def FnExactCosOfCardSaid : Prop := Claim7.holds Tryd.pinned (.plain (OpenSpec.ofChange fnExactCosOfSpec)) fnExactCosOfCard

/-- THE TIED CARD OF 'laws.FnExactAngleOf'. -/
def fnExactAngleOfCard : Claim7 := { stood := { row := fnExactAngleOfRow, standIns := [], harness := (true, "16f142150e251f5b7a807395511ea9e6c2eac8210596b8d543622b255f5360c5"), looks := false }, kinds := [], alts := [], laidByText := true, laidKinds := [.data], laidTests := true, laidLooks := .later }
def FnExactAngleOfCardSaid : Prop := Claim7.holds Tryd.pinned (.plain (OpenSpec.ofChange fnExactAngleOfSpec)) fnExactAngleOfCard

/-- THE SECOND FORM's CARD OF 'laws.FnRound'. -/
def fnRoundUptoCard : Claim7 := { stood := { row := fnRoundUptoRow, standIns := [], harness := (true, "16f142150e251f5b7a807395511ea9e6c2eac8210596b8d543622b255f5360c5"), looks := false }, kinds := [], alts := [], laidByText := true, laidKinds := [.data], laidTests := true, laidLooks := .later }
def FnRoundUptoCardSaid : Prop := Claim7.holds Tryd.pinned (.plain (OpenSpec.upto fnRoundSpec)) fnRoundUptoCard

/-- THE SECOND FORM's CARD OF 'laws.FnExactSinOf'. -/
def fnExactSinOfUptoCard : Claim7 := { stood := { row := fnExactSinOfUptoRow, standIns := [], harness := (true, "16f142150e251f5b7a807395511ea9e6c2eac8210596b8d543622b255f5360c5"), looks := false }, kinds := [], alts := [], laidByText := true, laidKinds := [.data], laidTests := true, laidLooks := .later }
def FnExactSinOfUptoCardSaid : Prop := Claim7.holds Tryd.pinned (.plain (OpenSpec.upto fnExactSinOfSpec)) fnExactSinOfUptoCard

/-- THE SECOND FORM's CARD OF 'laws.FnExactCosOf'. -/
def fnExactCosOfUptoCard : Claim7 := { stood := { row := fnExactCosOfUptoRow, standIns := [], harness := (true, "16f142150e251f5b7a807395511ea9e6c2eac8210596b8d543622b255f5360c5"), looks := false }, kinds := [], alts := [], laidByText := true, laidKinds := [.data], laidTests := true, laidLooks := .later }
def FnExactCosOfUptoCardSaid : Prop := Claim7.holds Tryd.pinned (.plain (OpenSpec.upto fnExactCosOfSpec)) fnExactCosOfUptoCard

/-- THE SECOND FORM's CARD OF 'laws.FnExactAngleOf'. -/
def fnExactAngleOfUptoCard : Claim7 := { stood := { row := fnExactAngleOfUptoRow, standIns := [], harness := (true, "16f142150e251f5b7a807395511ea9e6c2eac8210596b8d543622b255f5360c5"), looks := false }, kinds := [], alts := [], laidByText := true, laidKinds := [.data], laidTests := true, laidLooks := .later }
def FnExactAngleOfUptoCardSaid : Prop := Claim7.holds Tryd.pinned (.plain (OpenSpec.upto fnExactAngleOfSpec)) fnExactAngleOfUptoCard
end Rows
end Go.Proofs.YtocjgpmplmillaaDoor
