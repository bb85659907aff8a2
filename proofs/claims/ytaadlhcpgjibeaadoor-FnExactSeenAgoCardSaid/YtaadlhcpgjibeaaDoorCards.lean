/-
  DERIVED. GIVEN WITH THE SEED: THE CARDS: each row of YtaadlhcpgjibeaaDoorRows.lean that lists a variable, with what it lists TIED to the program's text (the seventh form; the later family's looks); each row that meets fmt, with fmt's text TOLD by the authors' own Lean function (tested against real Go, not proved from fmt's source: count such statements apart). THE CARD IS WHAT COUNTS. Prove the row's statement (the work); the ties are given (YtaadlhcpgjibeaaDoorTie.lean); close each card by the builder's one call (the guide's Derived/Test/ToyasCard.lean, 'card_holds'). Laid BY PROGRAM, IN A SANDBOX (cutbox-door.mjs). By AI agents, Wed Nov 11 2026. No macro, syntax, notation, axiom, sorry.
-/
import Derived.Test.YtaadlhcpgjibeaaDoorRows
import GoSem.ClaimSeven
namespace Go.Proofs.YtaadlhcpgjibeaaDoor
namespace Rows

/-- THE TIED CARD OF 'laws.FnWire'. -/
def fnWireCard : Claim7 := { stood := { row := fnWireRow, standIns := [], harness := (true, "e88eefa4a3c2a9ec6de71181edf8a09ac7d7eee333181281073f4ed70c8e8e2b"), looks := false }, kinds := [], alts := [], laidByText := true, laidKinds := [.data], laidTests := true, laidLooks := .later }
def FnWireCardSaid : Prop := Claim7.holds Tryd.pinned (.plain (OpenSpec.ofChange fnWireSpec)) fnWireCard

/-- THE TIED CARD OF 'laws.FnExactGoodThings'. -/
def fnExactGoodThingsCard : Claim7 := { stood := { row := fnExactGoodThingsRow, standIns := [], harness := (true, "e88eefa4a3c2a9ec6de71181edf8a09ac7d7eee333181281073f4ed70c8e8e2b"), looks := false }, kinds := [], alts := [], laidByText := true, laidKinds := [.data], laidTests := true, laidLooks := .later }
def FnExactGoodThingsCardSaid : Prop := Claim7.holds Tryd.pinned (.plain (OpenSpec.ofChange fnExactGoodThingsSpec)) fnExactGoodThingsCard

/-- THE TIED CARD OF 'laws.FnExactDeltaOf'. -/
def fnExactDeltaOfCard : Claim7 := { stood := { row := fnExactDeltaOfRow, standIns := [], harness := (true, "e88eefa4a3c2a9ec6de71181edf8a09ac7d7eee333181281073f4ed70c8e8e2b"), looks := false }, kinds := [], alts := [], laidByText := true, laidKinds := [.data], laidTests := true, laidLooks := .later }
def FnExactDeltaOfCardSaid : Prop := Claim7.holds Tryd.pinned (.plain (OpenSpec.ofChange fnExactDeltaOfSpec)) fnExactDeltaOfCard

/-- THE TIED CARD OF 'laws.FnExactApplyDelta'. -/
def fnExactApplyDeltaCard : Claim7 := { stood := { row := fnExactApplyDeltaRow, standIns := [], harness := (true, "e88eefa4a3c2a9ec6de71181edf8a09ac7d7eee333181281073f4ed70c8e8e2b"), looks := false }, kinds := [], alts := [], laidByText := true, laidKinds := [.data], laidTests := true, laidLooks := .later }
def FnExactApplyDeltaCardSaid : Prop := Claim7.holds Tryd.pinned (.plain (OpenSpec.ofChange fnExactApplyDeltaSpec)) fnExactApplyDeltaCard

/-- THE TIED CARD OF 'laws.FnExactInterest'. -/
def fnExactInterestCard : Claim7 := { stood := { row := fnExactInterestRow, standIns := [], harness := (true, "e88eefa4a3c2a9ec6de71181edf8a09ac7d7eee333181281073f4ed70c8e8e2b"), looks := false }, kinds := [], alts := [], laidByText := true, laidKinds := [.data], laidTests := true, laidLooks := .later }
def FnExactInterestCardSaid : Prop := Claim7.holds Tryd.pinned (.plain (OpenSpec.ofChange fnExactInterestSpec)) fnExactInterestCard

/-- THE TIED CARD OF 'laws.FnExactSeenAgo'. -/
def fnExactSeenAgoCard : Claim7 := { stood := { row := fnExactSeenAgoRow, standIns := [], harness := (true, "e88eefa4a3c2a9ec6de71181edf8a09ac7d7eee333181281073f4ed70c8e8e2b"), looks := false }, kinds := [], alts := [], laidByText := true, laidKinds := [.data], laidTests := true, laidLooks := .later }
def FnExactSeenAgoCardSaid : Prop := Claim7.holds Tryd.pinned (.plain (OpenSpec.ofChange fnExactSeenAgoSpec)) fnExactSeenAgoCard

/-- THE SECOND FORM's CARD OF 'laws.FnWire'. -/
def fnWireUptoCard : Claim7 := { stood := { row := fnWireUptoRow, standIns := [], harness := (true, "e88eefa4a3c2a9ec6de71181edf8a09ac7d7eee333181281073f4ed70c8e8e2b"), looks := false }, kinds := [], alts := [], laidByText := true, laidKinds := [.data], laidTests := true, laidLooks := .later }
def FnWireUptoCardSaid : Prop := Claim7.holds Tryd.pinned (.plain (OpenSpec.upto fnWireSpec)) fnWireUptoCard

/-- THE SECOND FORM's CARD OF 'laws.FnExactGoodThings'. -/
def fnExactGoodThingsUptoCard : Claim7 := { stood := { row := fnExactGoodThingsUptoRow, standIns := [], harness := (true, "e88eefa4a3c2a9ec6de71181edf8a09ac7d7eee333181281073f4ed70c8e8e2b"), looks := false }, kinds := [], alts := [], laidByText := true, laidKinds := [.data], laidTests := true, laidLooks := .later }
def FnExactGoodThingsUptoCardSaid : Prop := Claim7.holds Tryd.pinned (.plain (OpenSpec.upto fnExactGoodThingsSpec)) fnExactGoodThingsUptoCard

/-- THE SECOND FORM's CARD OF 'laws.FnExactDeltaOf'. -/
def fnExactDeltaOfUptoCard : Claim7 := { stood := { row := fnExactDeltaOfUptoRow, standIns := [], harness := (true, "e88eefa4a3c2a9ec6de71181edf8a09ac7d7eee333181281073f4ed70c8e8e2b"), looks := false }, kinds := [], alts := [], laidByText := true, laidKinds := [.data], laidTests := true, laidLooks := .later }
def FnExactDeltaOfUptoCardSaid : Prop := Claim7.holds Tryd.pinned (.plain (OpenSpec.upto fnExactDeltaOfSpec)) fnExactDeltaOfUptoCard

/-- THE SECOND FORM's CARD OF 'laws.FnExactApplyDelta'. -/
def fnExactApplyDeltaUptoCard : Claim7 := { stood := { row := fnExactApplyDeltaUptoRow, standIns := [], harness := (true, "e88eefa4a3c2a9ec6de71181edf8a09ac7d7eee333181281073f4ed70c8e8e2b"), looks := false }, kinds := [], alts := [], laidByText := true, laidKinds := [.data], laidTests := true, laidLooks := .later }
def FnExactApplyDeltaUptoCardSaid : Prop := Claim7.holds Tryd.pinned (.plain (OpenSpec.upto fnExactApplyDeltaSpec)) fnExactApplyDeltaUptoCard

/-- THE SECOND FORM's CARD OF 'laws.FnExactInterest'. -/
def fnExactInterestUptoCard : Claim7 := { stood := { row := fnExactInterestUptoRow, standIns := [], harness := (true, "e88eefa4a3c2a9ec6de71181edf8a09ac7d7eee333181281073f4ed70c8e8e2b"), looks := false }, kinds := [], alts := [], laidByText := true, laidKinds := [.data], laidTests := true, laidLooks := .later }
def FnExactInterestUptoCardSaid : Prop := Claim7.holds Tryd.pinned (.plain (OpenSpec.upto fnExactInterestSpec)) fnExactInterestUptoCard

/-- THE SECOND FORM's CARD OF 'laws.FnExactSeenAgo'. -/
def fnExactSeenAgoUptoCard : Claim7 := { stood := { row := fnExactSeenAgoUptoRow, standIns := [], harness := (true, "e88eefa4a3c2a9ec6de71181edf8a09ac7d7eee333181281073f4ed70c8e8e2b"), looks := false }, kinds := [], alts := [], laidByText := true, laidKinds := [.data], laidTests := true, laidLooks := .later }
def FnExactSeenAgoUptoCardSaid : Prop := Claim7.holds Tryd.pinned (.plain (OpenSpec.upto fnExactSeenAgoSpec)) fnExactSeenAgoUptoCard
end Rows
end Go.Proofs.YtaadlhcpgjibeaaDoor
