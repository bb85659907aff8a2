/-
  No cell of these rows narrows 'for every input' (looked for: loops, veiled, ifaces, maps, wideKeys, modest, calm, conditions, laid).
  DERIVED. THE GIVEN ROWS OF THIS SEAT. 7 by the template 'for every input the law returns true; each argument reads behind the call as it read before'; 0 by the template 'total and deterministic' (their statements: YtfibikkbhbmfkaaTotals.lean).
  GIVEN WITH THE SEED: the statements are not yours to turn. If you find one false, say at which input.
  Laid BY PROGRAM, IN A SANDBOX (cutbox-rows.mjs): the forced cells as the released guide's own fill.sh prints them over the translation 0f241487f7b3f95e… (all of the seat's roots in one cut). By AI agents, Wed Nov 11 2026. No macro, syntax, notation, axiom, sorry.
-/
import Derived.Test.YtfibikkbhbmfkaaChecked
import GoSem.Claim
import GoSem.ClaimJoined
import GoSem.ClaimMapViews
import Derived.JoinedTies
import Derived.KernelRfl
namespace Go.Proofs.Ytfibikkbhbmfkaa
/- THE CELL 'sum', in the pinned program and in every row, IS THE sha256 OF THE DUMP (.gsa) THAT YtfibikkbhbmfkaaProg.lean LOADS. Nothing in Lean hashes anything: it is a label: what it is worth is what the hold of that sum in a sandbox is worth. -/
noncomputable def Try.pinned : Pinned := { name := "ytfibikkbhbmfkaa", sum := "0f241487f7b3f95e570e74b5333df49457843aed3d718585fffcd437464a23c3", checked := Try.checked }
namespace Rows
def none {H : Type} : Left H := { results := [], args := [] }

/-- 'laws.FnExactGoodShape': WHATEVER THE INPUT: true; the input reads as it did. -/
def fnExactGoodShapeSpec : ChangeSpec := { name := "fnExactGoodShape", fn := fun _ => fun
  | [d] => { results := [.lit (.bool true)], args := [d] }
  | _ => none }
def fnExactGoodShapeRow : OpenClaim := { program := "ytfibikkbhbmfkaa", sum := "0f241487f7b3f95e570e74b5333df49457843aed3d718585fffcd437464a23c3", func := "loop.example/g00064/laws.FnExactGoodShape", spec := "fnExactGoodShape", apart := false }
def FnExactGoodShapeSaid : Prop := fnExactGoodShapeRow.holds Try.pinned (OpenSpec.ofChange fnExactGoodShapeSpec)

/-- ITS FALSE NEIGHBOUR: 'it returns false'. Refute it at one input. -/
def fnExactGoodShapeWrong : ChangeSpec := { name := "fnExactGoodShape", fn := fun _ => fun
  | [d] => { results := [.lit (.bool false)], args := [d] }
  | _ => none }
def FnExactGoodShapeWrongFalsely : Prop := fnExactGoodShapeRow.holds Try.pinned (OpenSpec.ofChange fnExactGoodShapeWrong)

/-- 'laws.FnExactBounds': WHATEVER THE INPUT: true; the input reads as it did. -/
def fnExactBoundsSpec : ChangeSpec := { name := "fnExactBounds", fn := fun _ => fun
  | [d] => { results := [.lit (.bool true)], args := [d] }
  | _ => none }
def fnExactBoundsRow : OpenClaim := { program := "ytfibikkbhbmfkaa", sum := "0f241487f7b3f95e570e74b5333df49457843aed3d718585fffcd437464a23c3", func := "loop.example/g00064/laws.FnExactBounds", spec := "fnExactBounds", unfollowed := true, recurses := true, apart := false }
def FnExactBoundsSaid : Prop := fnExactBoundsRow.holds Try.pinned (OpenSpec.ofChange fnExactBoundsSpec)

/-- ITS FALSE NEIGHBOUR: 'it returns false'. Refute it at one input. -/
def fnExactBoundsWrong : ChangeSpec := { name := "fnExactBounds", fn := fun _ => fun
  | [d] => { results := [.lit (.bool false)], args := [d] }
  | _ => none }
def FnExactBoundsWrongFalsely : Prop := fnExactBoundsRow.holds Try.pinned (OpenSpec.ofChange fnExactBoundsWrong)

/-- 'laws.FnExactHasPlace': WHATEVER THE INPUT: true; the input reads as it did. -/
def fnExactHasPlaceSpec : ChangeSpec := { name := "fnExactHasPlace", fn := fun _ => fun
  | [d1, d2, d3] => { results := [.lit (.bool true)], args := [d1, d2, d3] }
  | _ => none }
def fnExactHasPlaceRow : OpenClaim := { program := "ytfibikkbhbmfkaa", sum := "0f241487f7b3f95e570e74b5333df49457843aed3d718585fffcd437464a23c3", func := "loop.example/g00064/laws.FnExactHasPlace", spec := "fnExactHasPlace", unfollowed := true, recurses := true, apart := false }
def FnExactHasPlaceSaid : Prop := fnExactHasPlaceRow.holds Try.pinned (OpenSpec.ofChange fnExactHasPlaceSpec)

/-- ITS FALSE NEIGHBOUR: 'it returns false'. Refute it at one input. -/
def fnExactHasPlaceWrong : ChangeSpec := { name := "fnExactHasPlace", fn := fun _ => fun
  | [d1, d2, d3] => { results := [.lit (.bool false)], args := [d1, d2, d3] }
  | _ => none }
def FnExactHasPlaceWrongFalsely : Prop := fnExactHasPlaceRow.holds Try.pinned (OpenSpec.ofChange fnExactHasPlaceWrong)

/-- 'laws.FnExactTouch': WHATEVER THE INPUT: true; the input reads as it did. -/
def fnExactTouchSpec : ChangeSpec := { name := "fnExactTouch", fn := fun _ => fun
  | [d1, d2] => { results := [.lit (.bool true)], args := [d1, d2] }
  | _ => none }
def fnExactTouchRow : OpenClaim := { program := "ytfibikkbhbmfkaa", sum := "0f241487f7b3f95e570e74b5333df49457843aed3d718585fffcd437464a23c3", func := "loop.example/g00064/laws.FnExactTouch", spec := "fnExactTouch", unfollowed := true, recurses := true, apart := false }
def FnExactTouchSaid : Prop := fnExactTouchRow.holds Try.pinned (OpenSpec.ofChange fnExactTouchSpec)

/-- ITS FALSE NEIGHBOUR: 'it returns false'. Refute it at one input. -/
def fnExactTouchWrong : ChangeSpec := { name := "fnExactTouch", fn := fun _ => fun
  | [d1, d2] => { results := [.lit (.bool false)], args := [d1, d2] }
  | _ => none }
def FnExactTouchWrongFalsely : Prop := fnExactTouchRow.holds Try.pinned (OpenSpec.ofChange fnExactTouchWrong)

/-- 'laws.FnExactAllPairs': WHATEVER THE INPUT: true; the input reads as it did. -/
def fnExactAllPairsSpec : ChangeSpec := { name := "fnExactAllPairs", fn := fun _ => fun
  | [d] => { results := [.lit (.bool true)], args := [d] }
  | _ => none }
def fnExactAllPairsRow : OpenClaim := { program := "ytfibikkbhbmfkaa", sum := "0f241487f7b3f95e570e74b5333df49457843aed3d718585fffcd437464a23c3", func := "loop.example/g00064/laws.FnExactAllPairs", spec := "fnExactAllPairs", unfollowed := true, recurses := true, apart := false }
def FnExactAllPairsSaid : Prop := fnExactAllPairsRow.holds Try.pinned (OpenSpec.ofChange fnExactAllPairsSpec)

/-- ITS FALSE NEIGHBOUR: 'it returns false'. Refute it at one input. -/
def fnExactAllPairsWrong : ChangeSpec := { name := "fnExactAllPairs", fn := fun _ => fun
  | [d] => { results := [.lit (.bool false)], args := [d] }
  | _ => none }
def FnExactAllPairsWrongFalsely : Prop := fnExactAllPairsRow.holds Try.pinned (OpenSpec.ofChange fnExactAllPairsWrong)

/-- 'laws.FnExactSweepPairs': WHATEVER THE INPUT: true; the input reads as it did. -/
def fnExactSweepPairsSpec : ChangeSpec := { name := "fnExactSweepPairs", fn := fun _ => fun
  | [d] => { results := [.lit (.bool true)], args := [d] }
  | _ => none }
def fnExactSweepPairsRow : OpenClaim := { program := "ytfibikkbhbmfkaa", sum := "0f241487f7b3f95e570e74b5333df49457843aed3d718585fffcd437464a23c3", func := "loop.example/g00064/laws.FnExactSweepPairs", spec := "fnExactSweepPairs", unfollowed := true, recurses := true, apart := false }
def FnExactSweepPairsSaid : Prop := fnExactSweepPairsRow.holds Try.pinned (OpenSpec.ofChange fnExactSweepPairsSpec)

/-- ITS FALSE NEIGHBOUR: 'it returns false'. Refute it at one input. -/
def fnExactSweepPairsWrong : ChangeSpec := { name := "fnExactSweepPairs", fn := fun _ => fun
  | [d] => { results := [.lit (.bool false)], args := [d] }
  | _ => none }
def FnExactSweepPairsWrongFalsely : Prop := fnExactSweepPairsRow.holds Try.pinned (OpenSpec.ofChange fnExactSweepPairsWrong)

/-- 'laws.FnExactRayMeets': WHATEVER THE INPUT: true; the input reads as it did. -/
def fnExactRayMeetsSpec : ChangeSpec := { name := "fnExactRayMeets", fn := fun _ => fun
  | [d1, d2, d3, d4, d5] => { results := [.lit (.bool true)], args := [d1, d2, d3, d4, d5] }
  | _ => none }
def fnExactRayMeetsRow : OpenClaim := { program := "ytfibikkbhbmfkaa", sum := "0f241487f7b3f95e570e74b5333df49457843aed3d718585fffcd437464a23c3", func := "loop.example/g00064/laws.FnExactRayMeets", spec := "fnExactRayMeets", unfollowed := true, recurses := true, apart := false }
def FnExactRayMeetsSaid : Prop := fnExactRayMeetsRow.holds Try.pinned (OpenSpec.ofChange fnExactRayMeetsSpec)

/-- ITS FALSE NEIGHBOUR: 'it returns false'. Refute it at one input. -/
def fnExactRayMeetsWrong : ChangeSpec := { name := "fnExactRayMeets", fn := fun _ => fun
  | [d1, d2, d3, d4, d5] => { results := [.lit (.bool false)], args := [d1, d2, d3, d4, d5] }
  | _ => none }
def FnExactRayMeetsWrongFalsely : Prop := fnExactRayMeetsRow.holds Try.pinned (OpenSpec.ofChange fnExactRayMeetsWrong)

/- THE SECOND FORM. 'bulk': how many values and letters a reading holds, each counted each time it is reached (what is shared counts as often as it is met; a slice's spare places count too). A statement '..UptoSaid' is the law's where the arguments, and the package variables that the reading takes, are together of bulk at most 1048576: NARROWER than '..Said'. Prove '..Said' where nothing that the law and all that it calls make is longer than what came in: it says more and counts as full. Else prove '..UptoSaid'. A law counts once. -/
mutual
def uptoBulk {H : Type} : DataW H → Nat
  | .lit (.string bytes) => bytes.length + 1
  | .lit _ => 1
  | .nil => 1
  | .ptr d => uptoBulk d + 1
  | .slice elems spare => uptoBulkAll elems + uptoBulkAll spare + 1
  | .agg parts => uptoBulkAll parts + 1
  | .iface _ d => uptoBulk d + 1
  | .map entries => uptoBulkEntries entries + 1
  | .held _ => 1
def uptoBulkAll {H : Type} : List (DataW H) → Nat
  | [] => 0
  | d :: r => uptoBulk d + uptoBulkAll r
def uptoBulkEntries {H : Type} : List (Lit × DataW H) → Nat
  | [] => 0
  | x :: r => uptoBulkEntry x + uptoBulkEntries r
def uptoBulkEntry {H : Type} : Lit × DataW H → Nat
  | (.string bytes, d) => bytes.length + uptoBulk d + 1
  | (_, d) => uptoBulk d + 1
 end
def uptoSmall : (H : Type) → List (DataW H) → Bool := fun _ ds => decide (uptoBulkAll ds ≤ 1048576)
def OpenSpec.upto (s : _root_.Go.ChangeSpec) : _root_.Go.OpenSpec := { _root_.Go.OpenSpec.ofChange s with cond := some uptoSmall }

/-- 'laws.FnExactGoodShape', WHERE WHAT IT READS IS OF BULK AT MOST 1048576: true; the input reads as it did. -/
def fnExactGoodShapeUptoRow : OpenClaim := { program := "ytfibikkbhbmfkaa", sum := "0f241487f7b3f95e570e74b5333df49457843aed3d718585fffcd437464a23c3", func := "loop.example/g00064/laws.FnExactGoodShape", spec := "fnExactGoodShape", apart := false, narrowed := true }
def FnExactGoodShapeUptoSaid : Prop := fnExactGoodShapeUptoRow.holds Try.pinned (OpenSpec.upto fnExactGoodShapeSpec)

/-- 'laws.FnExactBounds', WHERE WHAT IT READS IS OF BULK AT MOST 1048576: true; the input reads as it did. -/
def fnExactBoundsUptoRow : OpenClaim := { program := "ytfibikkbhbmfkaa", sum := "0f241487f7b3f95e570e74b5333df49457843aed3d718585fffcd437464a23c3", func := "loop.example/g00064/laws.FnExactBounds", spec := "fnExactBounds", unfollowed := true, recurses := true, apart := false, narrowed := true }
def FnExactBoundsUptoSaid : Prop := fnExactBoundsUptoRow.holds Try.pinned (OpenSpec.upto fnExactBoundsSpec)

/-- 'laws.FnExactHasPlace', WHERE WHAT IT READS IS OF BULK AT MOST 1048576: true; the input reads as it did. -/
def fnExactHasPlaceUptoRow : OpenClaim := { program := "ytfibikkbhbmfkaa", sum := "0f241487f7b3f95e570e74b5333df49457843aed3d718585fffcd437464a23c3", func := "loop.example/g00064/laws.FnExactHasPlace", spec := "fnExactHasPlace", unfollowed := true, recurses := true, apart := false, narrowed := true }
def FnExactHasPlaceUptoSaid : Prop := fnExactHasPlaceUptoRow.holds Try.pinned (OpenSpec.upto fnExactHasPlaceSpec)

/-- 'laws.FnExactTouch', WHERE WHAT IT READS IS OF BULK AT MOST 1048576: true; the input reads as it did. -/
def fnExactTouchUptoRow : OpenClaim := { program := "ytfibikkbhbmfkaa", sum := "0f241487f7b3f95e570e74b5333df49457843aed3d718585fffcd437464a23c3", func := "loop.example/g00064/laws.FnExactTouch", spec := "fnExactTouch", unfollowed := true, recurses := true, apart := false, narrowed := true }
def FnExactTouchUptoSaid : Prop := fnExactTouchUptoRow.holds Try.pinned (OpenSpec.upto fnExactTouchSpec)

/-- 'laws.FnExactAllPairs', WHERE WHAT IT READS IS OF BULK AT MOST 1048576: true; the input reads as it did. -/
def fnExactAllPairsUptoRow : OpenClaim := { program := "ytfibikkbhbmfkaa", sum := "0f241487f7b3f95e570e74b5333df49457843aed3d718585fffcd437464a23c3", func := "loop.example/g00064/laws.FnExactAllPairs", spec := "fnExactAllPairs", unfollowed := true, recurses := true, apart := false, narrowed := true }
def FnExactAllPairsUptoSaid : Prop := fnExactAllPairsUptoRow.holds Try.pinned (OpenSpec.upto fnExactAllPairsSpec)

/-- 'laws.FnExactSweepPairs', WHERE WHAT IT READS IS OF BULK AT MOST 1048576: true; the input reads as it did. -/
def fnExactSweepPairsUptoRow : OpenClaim := { program := "ytfibikkbhbmfkaa", sum := "0f241487f7b3f95e570e74b5333df49457843aed3d718585fffcd437464a23c3", func := "loop.example/g00064/laws.FnExactSweepPairs", spec := "fnExactSweepPairs", unfollowed := true, recurses := true, apart := false, narrowed := true }
def FnExactSweepPairsUptoSaid : Prop := fnExactSweepPairsUptoRow.holds Try.pinned (OpenSpec.upto fnExactSweepPairsSpec)

/-- 'laws.FnExactRayMeets', WHERE WHAT IT READS IS OF BULK AT MOST 1048576: true; the input reads as it did. -/
def fnExactRayMeetsUptoRow : OpenClaim := { program := "ytfibikkbhbmfkaa", sum := "0f241487f7b3f95e570e74b5333df49457843aed3d718585fffcd437464a23c3", func := "loop.example/g00064/laws.FnExactRayMeets", spec := "fnExactRayMeets", unfollowed := true, recurses := true, apart := false, narrowed := true }
def FnExactRayMeetsUptoSaid : Prop := fnExactRayMeetsUptoRow.holds Try.pinned (OpenSpec.upto fnExactRayMeetsSpec)

end Rows
end Go.Proofs.Ytfibikkbhbmfkaa
