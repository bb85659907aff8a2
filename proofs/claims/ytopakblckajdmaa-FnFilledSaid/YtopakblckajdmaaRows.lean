/-
  No cell of these rows narrows 'for every input' (looked for: loops, veiled, ifaces, maps, wideKeys, modest, calm, conditions, laid).
  DERIVED. THE GIVEN ROWS OF THIS SEAT. 8 by the template 'for every input the law returns true; each argument reads behind the call as it read before'; 0 by the template 'total and deterministic' (their statements: YtopakblckajdmaaTotals.lean).
  GIVEN WITH THE SEED: the statements are not yours to turn. If you find one false, say at which input.
  Laid BY PROGRAM, IN A SANDBOX (cutbox-rows.mjs): the forced cells as the released guide's own fill.sh prints them over the translation 37caf76343d9b4a6… (all of the seat's roots in one cut). By AI agents, Wed Nov 11 2026. No macro, syntax, notation, axiom, sorry.
-/
import Derived.Test.YtopakblckajdmaaChecked
import GoSem.Claim
import GoSem.ClaimJoined
import GoSem.ClaimMapViews
import Derived.JoinedTies
import Derived.KernelRfl
namespace Go.Proofs.Ytopakblckajdmaa
/- THE CELL 'sum', in the pinned program and in every row, IS THE sha256 OF THE DUMP (.gsa) THAT YtopakblckajdmaaProg.lean LOADS. Nothing in Lean hashes anything: it is a label: what it is worth is what the hold of that sum in a sandbox is worth. -/
noncomputable def Try.pinned : Pinned := { name := "ytopakblckajdmaa", sum := "37caf76343d9b4a6496e8801f40e8c083bf5366ef9ac453f26d0984336af737f", checked := Try.checked }
namespace Rows
def none {H : Type} : Left H := { results := [], args := [] }

/-- 'laws.FnFilled': WHATEVER THE INPUT: true; the input reads as it did. -/
def fnFilledSpec : ChangeSpec := { name := "fnFilled", fn := fun _ => fun
  | [d] => { results := [.lit (.bool true)], args := [d] }
  | _ => none }
def fnFilledRow : OpenClaim := { program := "ytopakblckajdmaa", sum := "37caf76343d9b4a6496e8801f40e8c083bf5366ef9ac453f26d0984336af737f", func := "loop.example/g00064/laws.FnFilled", spec := "fnFilled", unfollowed := true, recurses := true, apart := false }
def FnFilledSaid : Prop := fnFilledRow.holds Try.pinned (OpenSpec.ofChange fnFilledSpec)

/-- ITS FALSE NEIGHBOUR: 'it returns false'. Refute it at one input. -/
def fnFilledWrong : ChangeSpec := { name := "fnFilled", fn := fun _ => fun
  | [d] => { results := [.lit (.bool false)], args := [d] }
  | _ => none }
def FnFilledWrongFalsely : Prop := fnFilledRow.holds Try.pinned (OpenSpec.ofChange fnFilledWrong)

/-- 'laws.FnExactGoodRules': WHATEVER THE INPUT: true; the input reads as it did. -/
def fnExactGoodRulesSpec : ChangeSpec := { name := "fnExactGoodRules", fn := fun _ => fun
  | [d] => { results := [.lit (.bool true)], args := [d] }
  | _ => none }
def fnExactGoodRulesRow : OpenClaim := { program := "ytopakblckajdmaa", sum := "37caf76343d9b4a6496e8801f40e8c083bf5366ef9ac453f26d0984336af737f", func := "loop.example/g00064/laws.FnExactGoodRules", spec := "fnExactGoodRules", apart := false }
def FnExactGoodRulesSaid : Prop := fnExactGoodRulesRow.holds Try.pinned (OpenSpec.ofChange fnExactGoodRulesSpec)

/-- ITS FALSE NEIGHBOUR: 'it returns false'. Refute it at one input. -/
def fnExactGoodRulesWrong : ChangeSpec := { name := "fnExactGoodRules", fn := fun _ => fun
  | [d] => { results := [.lit (.bool false)], args := [d] }
  | _ => none }
def FnExactGoodRulesWrongFalsely : Prop := fnExactGoodRulesRow.holds Try.pinned (OpenSpec.ofChange fnExactGoodRulesWrong)

/-- 'laws.FnExactGoodField': WHATEVER THE INPUT: true; the input reads as it did. -/
def fnExactGoodFieldSpec : ChangeSpec := { name := "fnExactGoodField", fn := fun _ => fun
  | [d1, d2] => { results := [.lit (.bool true)], args := [d1, d2] }
  | _ => none }
def fnExactGoodFieldRow : OpenClaim := { program := "ytopakblckajdmaa", sum := "37caf76343d9b4a6496e8801f40e8c083bf5366ef9ac453f26d0984336af737f", func := "loop.example/g00064/laws.FnExactGoodField", spec := "fnExactGoodField", apart := false }
def FnExactGoodFieldSaid : Prop := fnExactGoodFieldRow.holds Try.pinned (OpenSpec.ofChange fnExactGoodFieldSpec)

/-- ITS FALSE NEIGHBOUR: 'it returns false'. Refute it at one input. -/
def fnExactGoodFieldWrong : ChangeSpec := { name := "fnExactGoodField", fn := fun _ => fun
  | [d1, d2] => { results := [.lit (.bool false)], args := [d1, d2] }
  | _ => none }
def FnExactGoodFieldWrongFalsely : Prop := fnExactGoodFieldRow.holds Try.pinned (OpenSpec.ofChange fnExactGoodFieldWrong)

/-- 'laws.FnExactFieldHolds': WHATEVER THE INPUT: true; the input reads as it did. -/
def fnExactFieldHoldsSpec : ChangeSpec := { name := "fnExactFieldHolds", fn := fun _ => fun
  | [d1, d2] => { results := [.lit (.bool true)], args := [d1, d2] }
  | _ => none }
def fnExactFieldHoldsRow : OpenClaim := { program := "ytopakblckajdmaa", sum := "37caf76343d9b4a6496e8801f40e8c083bf5366ef9ac453f26d0984336af737f", func := "loop.example/g00064/laws.FnExactFieldHolds", spec := "fnExactFieldHolds", apart := false }
def FnExactFieldHoldsSaid : Prop := fnExactFieldHoldsRow.holds Try.pinned (OpenSpec.ofChange fnExactFieldHoldsSpec)

/-- ITS FALSE NEIGHBOUR: 'it returns false'. Refute it at one input. -/
def fnExactFieldHoldsWrong : ChangeSpec := { name := "fnExactFieldHolds", fn := fun _ => fun
  | [d1, d2] => { results := [.lit (.bool false)], args := [d1, d2] }
  | _ => none }
def FnExactFieldHoldsWrongFalsely : Prop := fnExactFieldHoldsRow.holds Try.pinned (OpenSpec.ofChange fnExactFieldHoldsWrong)

/-- 'laws.FnExactMayStand': WHATEVER THE INPUT: true; the input reads as it did. -/
def fnExactMayStandSpec : ChangeSpec := { name := "fnExactMayStand", fn := fun _ => fun
  | [d1, d2, d3] => { results := [.lit (.bool true)], args := [d1, d2, d3] }
  | _ => none }
def fnExactMayStandRow : OpenClaim := { program := "ytopakblckajdmaa", sum := "37caf76343d9b4a6496e8801f40e8c083bf5366ef9ac453f26d0984336af737f", func := "loop.example/g00064/laws.FnExactMayStand", spec := "fnExactMayStand", unfollowed := true, recurses := true, apart := false }
def FnExactMayStandSaid : Prop := fnExactMayStandRow.holds Try.pinned (OpenSpec.ofChange fnExactMayStandSpec)

/-- ITS FALSE NEIGHBOUR: 'it returns false'. Refute it at one input. -/
def fnExactMayStandWrong : ChangeSpec := { name := "fnExactMayStand", fn := fun _ => fun
  | [d1, d2, d3] => { results := [.lit (.bool false)], args := [d1, d2, d3] }
  | _ => none }
def FnExactMayStandWrongFalsely : Prop := fnExactMayStandRow.holds Try.pinned (OpenSpec.ofChange fnExactMayStandWrong)

/-- 'laws.FnExactFillField': WHATEVER THE INPUT: true; the input reads as it did. -/
def fnExactFillFieldSpec : ChangeSpec := { name := "fnExactFillField", fn := fun _ => fun
  | [d1, d2] => { results := [.lit (.bool true)], args := [d1, d2] }
  | _ => none }
def fnExactFillFieldRow : OpenClaim := { program := "ytopakblckajdmaa", sum := "37caf76343d9b4a6496e8801f40e8c083bf5366ef9ac453f26d0984336af737f", func := "loop.example/g00064/laws.FnExactFillField", spec := "fnExactFillField", unfollowed := true, recurses := true, apart := false }
def FnExactFillFieldSaid : Prop := fnExactFillFieldRow.holds Try.pinned (OpenSpec.ofChange fnExactFillFieldSpec)

/-- ITS FALSE NEIGHBOUR: 'it returns false'. Refute it at one input. -/
def fnExactFillFieldWrong : ChangeSpec := { name := "fnExactFillField", fn := fun _ => fun
  | [d1, d2] => { results := [.lit (.bool false)], args := [d1, d2] }
  | _ => none }
def FnExactFillFieldWrongFalsely : Prop := fnExactFillFieldRow.holds Try.pinned (OpenSpec.ofChange fnExactFillFieldWrong)

/-- 'laws.FnExactTileMask': WHATEVER THE INPUT: true; the input reads as it did. -/
def fnExactTileMaskSpec : ChangeSpec := { name := "fnExactTileMask", fn := fun _ => fun
  | [d1, d2, d3] => { results := [.lit (.bool true)], args := [d1, d2, d3] }
  | _ => none }
def fnExactTileMaskRow : OpenClaim := { program := "ytopakblckajdmaa", sum := "37caf76343d9b4a6496e8801f40e8c083bf5366ef9ac453f26d0984336af737f", func := "loop.example/g00064/laws.FnExactTileMask", spec := "fnExactTileMask", apart := false }
def FnExactTileMaskSaid : Prop := fnExactTileMaskRow.holds Try.pinned (OpenSpec.ofChange fnExactTileMaskSpec)

/-- ITS FALSE NEIGHBOUR: 'it returns false'. Refute it at one input. -/
def fnExactTileMaskWrong : ChangeSpec := { name := "fnExactTileMask", fn := fun _ => fun
  | [d1, d2, d3] => { results := [.lit (.bool false)], args := [d1, d2, d3] }
  | _ => none }
def FnExactTileMaskWrongFalsely : Prop := fnExactTileMaskRow.holds Try.pinned (OpenSpec.ofChange fnExactTileMaskWrong)

/-- 'laws.FnExactAutoTile': WHATEVER THE INPUT: true; the input reads as it did. -/
def fnExactAutoTileSpec : ChangeSpec := { name := "fnExactAutoTile", fn := fun _ => fun
  | [d1, d2, d3] => { results := [.lit (.bool true)], args := [d1, d2, d3] }
  | _ => none }
def fnExactAutoTileRow : OpenClaim := { program := "ytopakblckajdmaa", sum := "37caf76343d9b4a6496e8801f40e8c083bf5366ef9ac453f26d0984336af737f", func := "loop.example/g00064/laws.FnExactAutoTile", spec := "fnExactAutoTile", apart := false }
def FnExactAutoTileSaid : Prop := fnExactAutoTileRow.holds Try.pinned (OpenSpec.ofChange fnExactAutoTileSpec)

/-- ITS FALSE NEIGHBOUR: 'it returns false'. Refute it at one input. -/
def fnExactAutoTileWrong : ChangeSpec := { name := "fnExactAutoTile", fn := fun _ => fun
  | [d1, d2, d3] => { results := [.lit (.bool false)], args := [d1, d2, d3] }
  | _ => none }
def FnExactAutoTileWrongFalsely : Prop := fnExactAutoTileRow.holds Try.pinned (OpenSpec.ofChange fnExactAutoTileWrong)

/- THE SECOND FORM. 'bulk': how many values and letters a reading holds, each counted each time it is reached (what is shared counts as often as it is met; a slice's spare places count too). A statement '..UptoSaid' is the law's where the arguments, and the package variables that the reading takes, are together of bulk at most 1048576: NARROWER than '..Said'. Prove '..Said' where nothing that the law and all that it calls make is longer than what came in: it says more and counts as full. Else prove '..UptoSaid'. A law counts once. -/
mutual
def uptoBulk {H : Type} : DataW H → Nat
  | .lit (.string bytes) => bytes.length + 1
  | .lit _ => 1
  | .nil => 1
  | .ptr d => uptoBulk d + 1
  | .slice elems spare => uptoBulkAll elems + uptoBulkAll spare + 1
  | .agg parts => uptoBulkAll parts + 1
  | .iface _ d => uptoBulk d + 1
  | .map entries => uptoBulkEntries entries + 1
  | .held _ => 1
def uptoBulkAll {H : Type} : List (DataW H) → Nat
  | [] => 0
  | d :: r => uptoBulk d + uptoBulkAll r
def uptoBulkEntries {H : Type} : List (Lit × DataW H) → Nat
  | [] => 0
  | x :: r => uptoBulkEntry x + uptoBulkEntries r
def uptoBulkEntry {H : Type} : Lit × DataW H → Nat
  | (.string bytes, d) => bytes.length + uptoBulk d + 1
  | (_, d) => uptoBulk d + 1
 end
def uptoSmall : (H : Type) → List (DataW H) → Bool := fun _ ds => decide (uptoBulkAll ds ≤ 1048576)
def OpenSpec.upto (s : _root_.Go.ChangeSpec) : _root_.Go.OpenSpec := { _root_.Go.OpenSpec.ofChange s with cond := some uptoSmall }

/-- 'laws.FnFilled', WHERE WHAT IT READS IS OF BULK AT MOST 1048576: true; the input reads as it did. -/
def fnFilledUptoRow : OpenClaim := { program := "ytopakblckajdmaa", sum := "37caf76343d9b4a6496e8801f40e8c083bf5366ef9ac453f26d0984336af737f", func := "loop.example/g00064/laws.FnFilled", spec := "fnFilled", unfollowed := true, recurses := true, apart := false, narrowed := true }
def FnFilledUptoSaid : Prop := fnFilledUptoRow.holds Try.pinned (OpenSpec.upto fnFilledSpec)

/-- 'laws.FnExactGoodRules', WHERE WHAT IT READS IS OF BULK AT MOST 1048576: true; the input reads as it did. -/
def fnExactGoodRulesUptoRow : OpenClaim := { program := "ytopakblckajdmaa", sum := "37caf76343d9b4a6496e8801f40e8c083bf5366ef9ac453f26d0984336af737f", func := "loop.example/g00064/laws.FnExactGoodRules", spec := "fnExactGoodRules", apart := false, narrowed := true }
def FnExactGoodRulesUptoSaid : Prop := fnExactGoodRulesUptoRow.holds Try.pinned (OpenSpec.upto fnExactGoodRulesSpec)

/-- 'laws.FnExactGoodField', WHERE WHAT IT READS IS OF BULK AT MOST 1048576: true; the input reads as it did. -/
def fnExactGoodFieldUptoRow : OpenClaim := { program := "ytopakblckajdmaa", sum := "37caf76343d9b4a6496e8801f40e8c083bf5366ef9ac453f26d0984336af737f", func := "loop.example/g00064/laws.FnExactGoodField", spec := "fnExactGoodField", apart := false, narrowed := true }
def FnExactGoodFieldUptoSaid : Prop := fnExactGoodFieldUptoRow.holds Try.pinned (OpenSpec.upto fnExactGoodFieldSpec)

/-- 'laws.FnExactFieldHolds', WHERE WHAT IT READS IS OF BULK AT MOST 1048576: true; the input reads as it did. -/
def fnExactFieldHoldsUptoRow : OpenClaim := { program := "ytopakblckajdmaa", sum := "37caf76343d9b4a6496e8801f40e8c083bf5366ef9ac453f26d0984336af737f", func := "loop.example/g00064/laws.FnExactFieldHolds", spec := "fnExactFieldHolds", apart := false, narrowed := true }
def FnExactFieldHoldsUptoSaid : Prop := fnExactFieldHoldsUptoRow.holds Try.pinned (OpenSpec.upto fnExactFieldHoldsSpec)

/-- 'laws.FnExactMayStand', WHERE WHAT IT READS IS OF BULK AT MOST 1048576: true; the input reads as it did. -/
def fnExactMayStandUptoRow : OpenClaim := { program := "ytopakblckajdmaa", sum := "37caf76343d9b4a6496e8801f40e8c083bf5366ef9ac453f26d0984336af737f", func := "loop.example/g00064/laws.FnExactMayStand", spec := "fnExactMayStand", unfollowed := true, recurses := true, apart := false, narrowed := true }
def FnExactMayStandUptoSaid : Prop := fnExactMayStandUptoRow.holds Try.pinned (OpenSpec.upto fnExactMayStandSpec)

/-- 'laws.FnExactFillField', WHERE WHAT IT READS IS OF BULK AT MOST 1048576: true; the input reads as it did. -/
def fnExactFillFieldUptoRow : OpenClaim := { program := "ytopakblckajdmaa", sum := "37caf76343d9b4a6496e8801f40e8c083bf5366ef9ac453f26d0984336af737f", func := "loop.example/g00064/laws.FnExactFillField", spec := "fnExactFillField", unfollowed := true, recurses := true, apart := false, narrowed := true }
def FnExactFillFieldUptoSaid : Prop := fnExactFillFieldUptoRow.holds Try.pinned (OpenSpec.upto fnExactFillFieldSpec)

/-- 'laws.FnExactTileMask', WHERE WHAT IT READS IS OF BULK AT MOST 1048576: true; the input reads as it did. -/
def fnExactTileMaskUptoRow : OpenClaim := { program := "ytopakblckajdmaa", sum := "37caf76343d9b4a6496e8801f40e8c083bf5366ef9ac453f26d0984336af737f", func := "loop.example/g00064/laws.FnExactTileMask", spec := "fnExactTileMask", apart := false, narrowed := true }
def FnExactTileMaskUptoSaid : Prop := fnExactTileMaskUptoRow.holds Try.pinned (OpenSpec.upto fnExactTileMaskSpec)

/-- 'laws.FnExactAutoTile', WHERE WHAT IT READS IS OF BULK AT MOST 1048576: true; the input reads as it did. -/
def fnExactAutoTileUptoRow : OpenClaim := { program := "ytopakblckajdmaa", sum := "37caf76343d9b4a6496e8801f40e8c083bf5366ef9ac453f26d0984336af737f", func := "loop.example/g00064/laws.FnExactAutoTile", spec := "fnExactAutoTile", apart := false, narrowed := true }
def FnExactAutoTileUptoSaid : Prop := fnExactAutoTileUptoRow.holds Try.pinned (OpenSpec.upto fnExactAutoTileSpec)

end Rows
end Go.Proofs.Ytopakblckajdmaa
