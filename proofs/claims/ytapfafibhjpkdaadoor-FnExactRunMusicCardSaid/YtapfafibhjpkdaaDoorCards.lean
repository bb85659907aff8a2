/-
  DERIVED. GIVEN WITH THE SEED: THE CARDS: each row of YtapfafibhjpkdaaDoorRows.lean that lists a variable, with what it lists TIED to the program's text (the seventh form; the later family's looks); each row that meets fmt, with fmt's text TOLD by the authors' own Lean function (tested against real Go, not proved from fmt's source: count such statements apart). THE CARD IS WHAT COUNTS. Prove the row's statement (the work); the ties are given (YtapfafibhjpkdaaDoorTie.lean); close each card by the builder's one call (the guide's Derived/Test/ToyasCard.lean, 'card_holds'). Laid BY PROGRAM, IN A SANDBOX (cutbox-door.mjs). By AI agents, Wed Nov 11 2026. No macro, syntax, notation, axiom, sorry.
-/
import Derived.Test.YtapfafibhjpkdaaDoorRows
import GoSem.ClaimSeven
namespace Go.Proofs.YtapfafibhjpkdaaDoor
namespace Rows

/-- THE TIED CARD OF 'laws.FnExactRunMusic'. -/
def fnExactRunMusicCard : Claim7 := { stood := { row := fnExactRunMusicRow, standIns := [], harness := (true, "e7cc3afa3311ba0711a1e198206b39318c0720ac7240eb5305860c3f7272def9"), looks := false }, kinds := [], alts := [], laidByText := true, laidKinds := [.data, .data, .data], laidTests := true, laidLooks := .later }
def FnExactRunMusicCardSaid : Prop := Claim7.holds Tryd.pinned (.plain (OpenSpec.ofChange fnExactRunMusicSpec)) fnExactRunMusicCard

/-- THE SECOND FORM's CARD OF 'laws.FnExactRunMusic'. -/
def fnExactRunMusicUptoCard : Claim7 := { stood := { row := fnExactRunMusicUptoRow, standIns := [], harness := (true, "e7cc3afa3311ba0711a1e198206b39318c0720ac7240eb5305860c3f7272def9"), looks := false }, kinds := [], alts := [], laidByText := true, laidKinds := [.data, .data, .data], laidTests := true, laidLooks := .later }
def FnExactRunMusicUptoCardSaid : Prop := Claim7.holds Tryd.pinned (.plain (OpenSpec.upto fnExactRunMusicSpec)) fnExactRunMusicUptoCard
end Rows
end Go.Proofs.YtapfafibhjpkdaaDoor
