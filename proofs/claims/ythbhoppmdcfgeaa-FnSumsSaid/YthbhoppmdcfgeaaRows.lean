/-
  No cell of these rows narrows 'for every input' (looked for: loops, veiled, ifaces, maps, wideKeys, modest, calm, conditions, laid).
  DERIVED. THE GIVEN ROWS OF THIS SEAT. 10 by the template 'for every input the law returns true; each argument reads behind the call as it read before'; 0 by the template 'total and deterministic' (their statements: YthbhoppmdcfgeaaTotals.lean).
  GIVEN WITH THE SEED: the statements are not yours to turn. If you find one false, say at which input.
  Laid BY PROGRAM, IN A SANDBOX (cutbox-rows.mjs): the forced cells as the released guide's own fill.sh prints them over the translation d31c115127d3a65b… (all of the seat's roots in one cut). By AI agents, Wed Nov 11 2026. No macro, syntax, notation, axiom, sorry.
-/
import Derived.Test.YthbhoppmdcfgeaaChecked
import GoSem.Claim
import GoSem.ClaimJoined
import GoSem.ClaimMapViews
import Derived.JoinedTies
import Derived.KernelRfl
namespace Go.Proofs.Ythbhoppmdcfgeaa
/- THE CELL 'sum', in the pinned program and in every row, IS THE sha256 OF THE DUMP (.gsa) THAT YthbhoppmdcfgeaaProg.lean LOADS. Nothing in Lean hashes anything: it is a label: what it is worth is what the hold of that sum in a sandbox is worth. -/
noncomputable def Try.pinned : Pinned := { name := "ythbhoppmdcfgeaa", sum := "d31c115127d3a65b768e60618a29c861cbd2915bf138898e5a54bb102c1e096e", checked := Try.checked }
namespace Rows
def none {H : Type} : Left H := { results := [], args := [] }

/-- 'laws.FnSums': WHATEVER THE INPUT: true; the input reads as it did. -/
def fnSumsSpec : ChangeSpec := { name := "fnSums", fn := fun _ => fun
  | [d1, d2] => { results := [.lit (.bool true)], args := [d1, d2] }
  | _ => none }
def fnSumsRow : OpenClaim := { program := "ythbhoppmdcfgeaa", sum := "d31c115127d3a65b768e60618a29c861cbd2915bf138898e5a54bb102c1e096e", func := "loop.example/g00064/laws.FnSums", spec := "fnSums", inPlace := ["math.Float64frombits", "math.Float64bits", "math.Float32bits", "math.Float32frombits"], apart := false }
def FnSumsSaid : Prop := fnSumsRow.holds Try.pinned (OpenSpec.ofChange fnSumsSpec)

/-- ITS FALSE NEIGHBOUR: 'it returns false'. Refute it at one input. -/
def fnSumsWrong : ChangeSpec := { name := "fnSums", fn := fun _ => fun
  | [d1, d2] => { results := [.lit (.bool false)], args := [d1, d2] }
  | _ => none }
def FnSumsWrongFalsely : Prop := fnSumsRow.holds Try.pinned (OpenSpec.ofChange fnSumsWrong)

/-- 'laws.FnExactGoodReal': WHATEVER THE INPUT: true; the input reads as it did. -/
def fnExactGoodRealSpec : ChangeSpec := { name := "fnExactGoodReal", fn := fun _ => fun
  | [d] => { results := [.lit (.bool true)], args := [d] }
  | _ => none }
def fnExactGoodRealRow : OpenClaim := { program := "ythbhoppmdcfgeaa", sum := "d31c115127d3a65b768e60618a29c861cbd2915bf138898e5a54bb102c1e096e", func := "loop.example/g00064/laws.FnExactGoodReal", spec := "fnExactGoodReal", inPlace := ["math.Float64bits", "math.Float64frombits"], apart := false }
def FnExactGoodRealSaid : Prop := fnExactGoodRealRow.holds Try.pinned (OpenSpec.ofChange fnExactGoodRealSpec)

/-- ITS FALSE NEIGHBOUR: 'it returns false'. Refute it at one input. -/
def fnExactGoodRealWrong : ChangeSpec := { name := "fnExactGoodReal", fn := fun _ => fun
  | [d] => { results := [.lit (.bool false)], args := [d] }
  | _ => none }
def FnExactGoodRealWrongFalsely : Prop := fnExactGoodRealRow.holds Try.pinned (OpenSpec.ofChange fnExactGoodRealWrong)

/-- 'laws.FnExactSumInOrder': WHATEVER THE INPUT: true; the input reads as it did. -/
def fnExactSumInOrderSpec : ChangeSpec := { name := "fnExactSumInOrder", fn := fun _ => fun
  | [d] => { results := [.lit (.bool true)], args := [d] }
  | _ => none }
def fnExactSumInOrderRow : OpenClaim := { program := "ythbhoppmdcfgeaa", sum := "d31c115127d3a65b768e60618a29c861cbd2915bf138898e5a54bb102c1e096e", func := "loop.example/g00064/laws.FnExactSumInOrder", spec := "fnExactSumInOrder", inPlace := ["math.Float64bits", "math.Float64frombits"], apart := false }
def FnExactSumInOrderSaid : Prop := fnExactSumInOrderRow.holds Try.pinned (OpenSpec.ofChange fnExactSumInOrderSpec)

/-- ITS FALSE NEIGHBOUR: 'it returns false'. Refute it at one input. -/
def fnExactSumInOrderWrong : ChangeSpec := { name := "fnExactSumInOrder", fn := fun _ => fun
  | [d] => { results := [.lit (.bool false)], args := [d] }
  | _ => none }
def FnExactSumInOrderWrongFalsely : Prop := fnExactSumInOrderRow.holds Try.pinned (OpenSpec.ofChange fnExactSumInOrderWrong)

/-- 'laws.FnExactMeanOfPresent': WHATEVER THE INPUT: true; the input reads as it did. -/
def fnExactMeanOfPresentSpec : ChangeSpec := { name := "fnExactMeanOfPresent", fn := fun _ => fun
  | [d] => { results := [.lit (.bool true)], args := [d] }
  | _ => none }
def fnExactMeanOfPresentRow : OpenClaim := { program := "ythbhoppmdcfgeaa", sum := "d31c115127d3a65b768e60618a29c861cbd2915bf138898e5a54bb102c1e096e", func := "loop.example/g00064/laws.FnExactMeanOfPresent", spec := "fnExactMeanOfPresent", inPlace := ["math.Float64bits", "math.Float64frombits"], apart := false }
def FnExactMeanOfPresentSaid : Prop := fnExactMeanOfPresentRow.holds Try.pinned (OpenSpec.ofChange fnExactMeanOfPresentSpec)

/-- ITS FALSE NEIGHBOUR: 'it returns false'. Refute it at one input. -/
def fnExactMeanOfPresentWrong : ChangeSpec := { name := "fnExactMeanOfPresent", fn := fun _ => fun
  | [d] => { results := [.lit (.bool false)], args := [d] }
  | _ => none }
def FnExactMeanOfPresentWrongFalsely : Prop := fnExactMeanOfPresentRow.holds Try.pinned (OpenSpec.ofChange fnExactMeanOfPresentWrong)

/-- 'laws.FnExactMulTurn': WHATEVER THE INPUT: true; the input reads as it did. -/
def fnExactMulTurnSpec : ChangeSpec := { name := "fnExactMulTurn", fn := fun _ => fun
  | [d1, d2] => { results := [.lit (.bool true)], args := [d1, d2] }
  | _ => none }
def fnExactMulTurnRow : OpenClaim := { program := "ythbhoppmdcfgeaa", sum := "d31c115127d3a65b768e60618a29c861cbd2915bf138898e5a54bb102c1e096e", func := "loop.example/g00064/laws.FnExactMulTurn", spec := "fnExactMulTurn", inPlace := ["math.Float64bits", "math.Float64frombits"], apart := false }
def FnExactMulTurnSaid : Prop := fnExactMulTurnRow.holds Try.pinned (OpenSpec.ofChange fnExactMulTurnSpec)

/-- ITS FALSE NEIGHBOUR: 'it returns false'. Refute it at one input. -/
def fnExactMulTurnWrong : ChangeSpec := { name := "fnExactMulTurn", fn := fun _ => fun
  | [d1, d2] => { results := [.lit (.bool false)], args := [d1, d2] }
  | _ => none }
def FnExactMulTurnWrongFalsely : Prop := fnExactMulTurnRow.holds Try.pinned (OpenSpec.ofChange fnExactMulTurnWrong)

/-- 'laws.FnExactDivTurn': WHATEVER THE INPUT: true; the input reads as it did. -/
def fnExactDivTurnSpec : ChangeSpec := { name := "fnExactDivTurn", fn := fun _ => fun
  | [d1, d2] => { results := [.lit (.bool true)], args := [d1, d2] }
  | _ => none }
def fnExactDivTurnRow : OpenClaim := { program := "ythbhoppmdcfgeaa", sum := "d31c115127d3a65b768e60618a29c861cbd2915bf138898e5a54bb102c1e096e", func := "loop.example/g00064/laws.FnExactDivTurn", spec := "fnExactDivTurn", inPlace := ["math.Float64bits", "math.Float64frombits"], apart := false }
def FnExactDivTurnSaid : Prop := fnExactDivTurnRow.holds Try.pinned (OpenSpec.ofChange fnExactDivTurnSpec)

/-- ITS FALSE NEIGHBOUR: 'it returns false'. Refute it at one input. -/
def fnExactDivTurnWrong : ChangeSpec := { name := "fnExactDivTurn", fn := fun _ => fun
  | [d1, d2] => { results := [.lit (.bool false)], args := [d1, d2] }
  | _ => none }
def FnExactDivTurnWrongFalsely : Prop := fnExactDivTurnRow.holds Try.pinned (OpenSpec.ofChange fnExactDivTurnWrong)

/-- 'laws.FnExactBlend': WHATEVER THE INPUT: true; the input reads as it did. -/
def fnExactBlendSpec : ChangeSpec := { name := "fnExactBlend", fn := fun _ => fun
  | [d1, d2, d3] => { results := [.lit (.bool true)], args := [d1, d2, d3] }
  | _ => none }
def fnExactBlendRow : OpenClaim := { program := "ythbhoppmdcfgeaa", sum := "d31c115127d3a65b768e60618a29c861cbd2915bf138898e5a54bb102c1e096e", func := "loop.example/g00064/laws.FnExactBlend", spec := "fnExactBlend", inPlace := ["math.Float64bits", "math.Float64frombits"], apart := false }
def FnExactBlendSaid : Prop := fnExactBlendRow.holds Try.pinned (OpenSpec.ofChange fnExactBlendSpec)

/-- ITS FALSE NEIGHBOUR: 'it returns false'. Refute it at one input. -/
def fnExactBlendWrong : ChangeSpec := { name := "fnExactBlend", fn := fun _ => fun
  | [d1, d2, d3] => { results := [.lit (.bool false)], args := [d1, d2, d3] }
  | _ => none }
def FnExactBlendWrongFalsely : Prop := fnExactBlendRow.holds Try.pinned (OpenSpec.ofChange fnExactBlendWrong)

/-- 'laws.FnExactToShort': WHATEVER THE INPUT: true; the input reads as it did. -/
def fnExactToShortSpec : ChangeSpec := { name := "fnExactToShort", fn := fun _ => fun
  | [d] => { results := [.lit (.bool true)], args := [d] }
  | _ => none }
def fnExactToShortRow : OpenClaim := { program := "ythbhoppmdcfgeaa", sum := "d31c115127d3a65b768e60618a29c861cbd2915bf138898e5a54bb102c1e096e", func := "loop.example/g00064/laws.FnExactToShort", spec := "fnExactToShort", inPlace := ["math.Float64bits", "math.Float64frombits", "math.Float32bits"], apart := false }
def FnExactToShortSaid : Prop := fnExactToShortRow.holds Try.pinned (OpenSpec.ofChange fnExactToShortSpec)

/-- ITS FALSE NEIGHBOUR: 'it returns false'. Refute it at one input. -/
def fnExactToShortWrong : ChangeSpec := { name := "fnExactToShort", fn := fun _ => fun
  | [d] => { results := [.lit (.bool false)], args := [d] }
  | _ => none }
def FnExactToShortWrongFalsely : Prop := fnExactToShortRow.holds Try.pinned (OpenSpec.ofChange fnExactToShortWrong)

/-- 'laws.FnExactOfShort': WHATEVER THE INPUT: true; the input reads as it did. -/
def fnExactOfShortSpec : ChangeSpec := { name := "fnExactOfShort", fn := fun _ => fun
  | [d] => { results := [.lit (.bool true)], args := [d] }
  | _ => none }
def fnExactOfShortRow : OpenClaim := { program := "ythbhoppmdcfgeaa", sum := "d31c115127d3a65b768e60618a29c861cbd2915bf138898e5a54bb102c1e096e", func := "loop.example/g00064/laws.FnExactOfShort", spec := "fnExactOfShort", inPlace := ["math.Float32frombits", "math.Float64bits", "math.Float64frombits"], apart := false }
def FnExactOfShortSaid : Prop := fnExactOfShortRow.holds Try.pinned (OpenSpec.ofChange fnExactOfShortSpec)

/-- ITS FALSE NEIGHBOUR: 'it returns false'. Refute it at one input. -/
def fnExactOfShortWrong : ChangeSpec := { name := "fnExactOfShort", fn := fun _ => fun
  | [d] => { results := [.lit (.bool false)], args := [d] }
  | _ => none }
def FnExactOfShortWrongFalsely : Prop := fnExactOfShortRow.holds Try.pinned (OpenSpec.ofChange fnExactOfShortWrong)

/-- 'laws.FnExactRealOrder': WHATEVER THE INPUT: true; the input reads as it did. -/
def fnExactRealOrderSpec : ChangeSpec := { name := "fnExactRealOrder", fn := fun _ => fun
  | [d1, d2] => { results := [.lit (.bool true)], args := [d1, d2] }
  | _ => none }
def fnExactRealOrderRow : OpenClaim := { program := "ythbhoppmdcfgeaa", sum := "d31c115127d3a65b768e60618a29c861cbd2915bf138898e5a54bb102c1e096e", func := "loop.example/g00064/laws.FnExactRealOrder", spec := "fnExactRealOrder", apart := false }
def FnExactRealOrderSaid : Prop := fnExactRealOrderRow.holds Try.pinned (OpenSpec.ofChange fnExactRealOrderSpec)

/-- ITS FALSE NEIGHBOUR: 'it returns false'. Refute it at one input. -/
def fnExactRealOrderWrong : ChangeSpec := { name := "fnExactRealOrder", fn := fun _ => fun
  | [d1, d2] => { results := [.lit (.bool false)], args := [d1, d2] }
  | _ => none }
def FnExactRealOrderWrongFalsely : Prop := fnExactRealOrderRow.holds Try.pinned (OpenSpec.ofChange fnExactRealOrderWrong)

/- THE SECOND FORM. 'bulk': how many values and letters a reading holds, each counted each time it is reached (what is shared counts as often as it is met; a slice's spare places count too). A statement '..UptoSaid' is the law's where the arguments, and the package variables that the reading takes, are together of bulk at most 1048576: NARROWER than '..Said'. Prove '..Said' where nothing that the law and all that it calls make is longer than what came in: it says more and counts as full. Else prove '..UptoSaid'. A law counts once. -/
mutual
def uptoBulk {H : Type} : DataW H → Nat
  | .lit (.string bytes) => bytes.length + 1
  | .lit _ => 1
  | .nil => 1
  | .ptr d => uptoBulk d + 1
  | .slice elems spare => uptoBulkAll elems + uptoBulkAll spare + 1
  | .agg parts => uptoBulkAll parts + 1
  | .iface _ d => uptoBulk d + 1
  | .map entries => uptoBulkEntries entries + 1
  | .held _ => 1
def uptoBulkAll {H : Type} : List (DataW H) → Nat
  | [] => 0
  | d :: r => uptoBulk d + uptoBulkAll r
def uptoBulkEntries {H : Type} : List (Lit × DataW H) → Nat
  | [] => 0
  | x :: r => uptoBulkEntry x + uptoBulkEntries r
def uptoBulkEntry {H : Type} : Lit × DataW H → Nat
  | (.string bytes, d) => bytes.length + uptoBulk d + 1
  | (_, d) => uptoBulk d + 1
 end
def uptoSmall : (H : Type) → List (DataW H) → Bool := fun _ ds => decide (uptoBulkAll ds ≤ 1048576)
def OpenSpec.upto (s : _root_.Go.ChangeSpec) : _root_.Go.OpenSpec := { _root_.Go.OpenSpec.ofChange s with cond := some uptoSmall }

/-- 'laws.FnSums', WHERE WHAT IT READS IS OF BULK AT MOST 1048576: true; the input reads as it did. -/
def fnSumsUptoRow : OpenClaim := { program := "ythbhoppmdcfgeaa", sum := "d31c115127d3a65b768e60618a29c861cbd2915bf138898e5a54bb102c1e096e", func := "loop.example/g00064/laws.FnSums", spec := "fnSums", inPlace := ["math.Float64frombits", "math.Float64bits", "math.Float32bits", "math.Float32frombits"], apart := false, narrowed := true }
def FnSumsUptoSaid : Prop := fnSumsUptoRow.holds Try.pinned (OpenSpec.upto fnSumsSpec)

/-- 'laws.FnExactGoodReal', WHERE WHAT IT READS IS OF BULK AT MOST 1048576: true; the input reads as it did. -/
def fnExactGoodRealUptoRow : OpenClaim := { program := "ythbhoppmdcfgeaa", sum := "d31c115127d3a65b768e60618a29c861cbd2915bf138898e5a54bb102c1e096e", func := "loop.example/g00064/laws.FnExactGoodReal", spec := "fnExactGoodReal", inPlace := ["math.Float64bits", "math.Float64frombits"], apart := false, narrowed := true }
def FnExactGoodRealUptoSaid : Prop := fnExactGoodRealUptoRow.holds Try.pinned (OpenSpec.upto fnExactGoodRealSpec)

/-- 'laws.FnExactSumInOrder', WHERE WHAT IT READS IS OF BULK AT MOST 1048576: true; the input reads as it did. -/
def fnExactSumInOrderUptoRow : OpenClaim := { program := "ythbhoppmdcfgeaa", sum := "d31c115127d3a65b768e60618a29c861cbd2915bf138898e5a54bb102c1e096e", func := "loop.example/g00064/laws.FnExactSumInOrder", spec := "fnExactSumInOrder", inPlace := ["math.Float64bits", "math.Float64frombits"], apart := false, narrowed := true }
def FnExactSumInOrderUptoSaid : Prop := fnExactSumInOrderUptoRow.holds Try.pinned (OpenSpec.upto fnExactSumInOrderSpec)

/-- 'laws.FnExactMeanOfPresent', WHERE WHAT IT READS IS OF BULK AT MOST 1048576: true; the input reads as it did. -/
def fnExactMeanOfPresentUptoRow : OpenClaim := { program := "ythbhoppmdcfgeaa", sum := "d31c115127d3a65b768e60618a29c861cbd2915bf138898e5a54bb102c1e096e", func := "loop.example/g00064/laws.FnExactMeanOfPresent", spec := "fnExactMeanOfPresent", inPlace := ["math.Float64bits", "math.Float64frombits"], apart := false, narrowed := true }
def FnExactMeanOfPresentUptoSaid : Prop := fnExactMeanOfPresentUptoRow.holds Try.pinned (OpenSpec.upto fnExactMeanOfPresentSpec)

/-- 'laws.FnExactMulTurn', WHERE WHAT IT READS IS OF BULK AT MOST 1048576: true; the input reads as it did. -/
def fnExactMulTurnUptoRow : OpenClaim := { program := "ythbhoppmdcfgeaa", sum := "d31c115127d3a65b768e60618a29c861cbd2915bf138898e5a54bb102c1e096e", func := "loop.example/g00064/laws.FnExactMulTurn", spec := "fnExactMulTurn", inPlace := ["math.Float64bits", "math.Float64frombits"], apart := false, narrowed := true }
def FnExactMulTurnUptoSaid : Prop := fnExactMulTurnUptoRow.holds Try.pinned (OpenSpec.upto fnExactMulTurnSpec)

/-- 'laws.FnExactDivTurn', WHERE WHAT IT READS IS OF BULK AT MOST 1048576: true; the input reads as it did. -/
def fnExactDivTurnUptoRow : OpenClaim := { program := "ythbhoppmdcfgeaa", sum := "d31c115127d3a65b768e60618a29c861cbd2915bf138898e5a54bb102c1e096e", func := "loop.example/g00064/laws.FnExactDivTurn", spec := "fnExactDivTurn", inPlace := ["math.Float64bits", "math.Float64frombits"], apart := false, narrowed := true }
def FnExactDivTurnUptoSaid : Prop := fnExactDivTurnUptoRow.holds Try.pinned (OpenSpec.upto fnExactDivTurnSpec)

/-- 'laws.FnExactBlend', WHERE WHAT IT READS IS OF BULK AT MOST 1048576: true; the input reads as it did. -/
def fnExactBlendUptoRow : OpenClaim := { program := "ythbhoppmdcfgeaa", sum := "d31c115127d3a65b768e60618a29c861cbd2915bf138898e5a54bb102c1e096e", func := "loop.example/g00064/laws.FnExactBlend", spec := "fnExactBlend", inPlace := ["math.Float64bits", "math.Float64frombits"], apart := false, narrowed := true }
def FnExactBlendUptoSaid : Prop := fnExactBlendUptoRow.holds Try.pinned (OpenSpec.upto fnExactBlendSpec)

/-- 'laws.FnExactToShort', WHERE WHAT IT READS IS OF BULK AT MOST 1048576: true; the input reads as it did. -/
def fnExactToShortUptoRow : OpenClaim := { program := "ythbhoppmdcfgeaa", sum := "d31c115127d3a65b768e60618a29c861cbd2915bf138898e5a54bb102c1e096e", func := "loop.example/g00064/laws.FnExactToShort", spec := "fnExactToShort", inPlace := ["math.Float64bits", "math.Float64frombits", "math.Float32bits"], apart := false, narrowed := true }
def FnExactToShortUptoSaid : Prop := fnExactToShortUptoRow.holds Try.pinned (OpenSpec.upto fnExactToShortSpec)

/-- 'laws.FnExactOfShort', WHERE WHAT IT READS IS OF BULK AT MOST 1048576: true; the input reads as it did. -/
def fnExactOfShortUptoRow : OpenClaim := { program := "ythbhoppmdcfgeaa", sum := "d31c115127d3a65b768e60618a29c861cbd2915bf138898e5a54bb102c1e096e", func := "loop.example/g00064/laws.FnExactOfShort", spec := "fnExactOfShort", inPlace := ["math.Float32frombits", "math.Float64bits", "math.Float64frombits"], apart := false, narrowed := true }
def FnExactOfShortUptoSaid : Prop := fnExactOfShortUptoRow.holds Try.pinned (OpenSpec.upto fnExactOfShortSpec)

/-- 'laws.FnExactRealOrder', WHERE WHAT IT READS IS OF BULK AT MOST 1048576: true; the input reads as it did. -/
def fnExactRealOrderUptoRow : OpenClaim := { program := "ythbhoppmdcfgeaa", sum := "d31c115127d3a65b768e60618a29c861cbd2915bf138898e5a54bb102c1e096e", func := "loop.example/g00064/laws.FnExactRealOrder", spec := "fnExactRealOrder", apart := false, narrowed := true }
def FnExactRealOrderUptoSaid : Prop := fnExactRealOrderUptoRow.holds Try.pinned (OpenSpec.upto fnExactRealOrderSpec)

end Rows
end Go.Proofs.Ythbhoppmdcfgeaa
