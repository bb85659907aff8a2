/-
  DERIVED. GIVEN WITH THE SEED: THE CARDS: each row of YtpeiblodefaajaaDoorRows.lean that lists a variable, with what it lists TIED to the program's text (the seventh form; the later family's looks); each row that meets fmt, with fmt's text TOLD by the authors' own Lean function (tested against real Go, not proved from fmt's source: count such statements apart). THE CARD IS WHAT COUNTS. Prove the row's statement (the work); the ties are given (YtpeiblodefaajaaDoorTie.lean); close each card by the builder's one call (the guide's Derived/Test/ToyasCard.lean, 'card_holds'). Laid BY PROGRAM, IN A SANDBOX (cutbox-door.mjs). By AI agents, Wed Nov 11 2026. No macro, syntax, notation, axiom, sorry.
-/
import Derived.Test.YtpeiblodefaajaaDoorRows
import GoSem.ClaimSeven
namespace Go.Proofs.YtpeiblodefaajaaDoor
namespace Rows

/-- THE TIED CARD OF 'laws.FnSparks'. -/
def fnSparksCard : Claim7 := { stood := { row := fnSparksRow, standIns := [], harness := (true, "e391dac4bf4da29ac09014e52266773481af6335a063ce2e7b13c4694a8e5486"), looks := false }, kinds := [], alts := [], laidByText := true, laidKinds := [.data], laidTests := true, laidLooks := .later }
def FnSparksCardSaid : Prop := Claim7.holds Tryd.pinned (.plain (OpenSpec.ofChange fnSparksSpec)) fnSparksCard

/-- THE TIED CARD OF 'laws.FnExactStepCloud'. -/
def fnExactStepCloudCard : Claim7 := { stood := { row := fnExactStepCloudRow, standIns := [], harness := (true, "e391dac4bf4da29ac09014e52266773481af6335a063ce2e7b13c4694a8e5486"), looks := false }, kinds := [], alts := [], laidByText := true, laidKinds := [.data], laidTests := true, laidLooks := .later }
def FnExactStepCloudCardSaid : Prop := Claim7.holds Tryd.pinned (.plain (OpenSpec.ofChange fnExactStepCloudSpec)) fnExactStepCloudCard

/-- THE TIED CARD OF 'laws.FnExactRunCloud'. -/
def fnExactRunCloudCard : Claim7 := { stood := { row := fnExactRunCloudRow, standIns := [], harness := (true, "e391dac4bf4da29ac09014e52266773481af6335a063ce2e7b13c4694a8e5486"), looks := false }, kinds := [], alts := [], laidByText := true, laidKinds := [.data], laidTests := true, laidLooks := .later }
def FnExactRunCloudCardSaid : Prop := Claim7.holds Tryd.pinned (.plain (OpenSpec.ofChange fnExactRunCloudSpec)) fnExactRunCloudCard

/-- THE TIED CARD OF 'laws.FnExactSparksAt'. -/
def fnExactSparksAtCard : Claim7 := { stood := { row := fnExactSparksAtRow, standIns := [], harness := (true, "e391dac4bf4da29ac09014e52266773481af6335a063ce2e7b13c4694a8e5486"), looks := false }, kinds := [], alts := [], laidByText := true, laidKinds := [.data], laidTests := true, laidLooks := .later }
def FnExactSparksAtCardSaid : Prop := Claim7.holds Tryd.pinned (.plain (OpenSpec.ofChange fnExactSparksAtSpec)) fnExactSparksAtCard

/-- THE SECOND FORM's CARD OF 'laws.FnSparks'. -/
def fnSparksUptoCard : Claim7 := { stood := { row := fnSparksUptoRow, standIns := [], harness := (true, "e391dac4bf4da29ac09014e52266773481af6335a063ce2e7b13c4694a8e5486"), looks := false }, kinds := [], alts := [], laidByText := true, laidKinds := [.data], laidTests := true, laidLooks := .later }
def FnSparksUptoCardSaid : Prop := Claim7.holds Tryd.pinned (.plain (OpenSpec.upto fnSparksSpec)) fnSparksUptoCard

/-- THE SECOND FORM's CARD OF 'laws.FnExactStepCloud'. -/
def fnExactStepCloudUptoCard : Claim7 := { stood := { row := fnExactStepCloudUptoRow, standIns := [], harness := (true, "e391dac4bf4da29ac09014e52266773481af6335a063ce2e7b13c4694a8e5486"), looks := false }, kinds := [], alts := [], laidByText := true, laidKinds := [.data], laidTests := true, laidLooks := .later }
def FnExactStepCloudUptoCardSaid : Prop := Claim7.holds Tryd.pinned (.plain (OpenSpec.upto fnExactStepCloudSpec)) fnExactStepCloudUptoCard

/-- THE SECOND FORM's CARD OF 'laws.FnExactRunCloud'. -/
def fnExactRunCloudUptoCard : Claim7 := { stood := { row := fnExactRunCloudUptoRow, standIns := [], harness := (true, "e391dac4bf4da29ac09014e52266773481af6335a063ce2e7b13c4694a8e5486"), looks := false }, kinds := [], alts := [], laidByText := true, laidKinds := [.data], laidTests := true, laidLooks := .later }
def FnExactRunCloudUptoCardSaid : Prop := Claim7.holds Tryd.pinned (.plain (OpenSpec.upto fnExactRunCloudSpec)) fnExactRunCloudUptoCard

/-- THE SECOND FORM's CARD OF 'laws.FnExactSparksAt'. -/
def fnExactSparksAtUptoCard : Claim7 := { stood := { row := fnExactSparksAtUptoRow, standIns := [], harness := (true, "e391dac4bf4da29ac09014e52266773481af6335a063ce2e7b13c4694a8e5486"), looks := false }, kinds := [], alts := [], laidByText := true, laidKinds := [.data], laidTests := true, laidLooks := .later }
def FnExactSparksAtUptoCardSaid : Prop := Claim7.holds Tryd.pinned (.plain (OpenSpec.upto fnExactSparksAtSpec)) fnExactSparksAtUptoCard
end Rows
end Go.Proofs.YtpeiblodefaajaaDoor
