/-
  NARROWER THAN 'FOR EVERY INPUT', by the rows' own cells (each row's printed sentence says how): FnWire: laid · FnExactGoodThings: laid · FnExactDeltaOf: laid · FnExactApplyDelta: laid · FnExactInterest: laid · FnExactSeenAgo: laid.
  DERIVED. THE GIVEN ROWS OF THIS SEAT. 6 by the template 'for every input the law returns true; each argument reads behind the call as it read before'; 0 by the template 'total and deterministic' (their statements: YtaadlhcpgjibeaaDoorTotals.lean).
  GIVEN WITH THE SEED: the statements are not yours to turn. If you find one false, say at which input.
  Laid BY PROGRAM, IN A SANDBOX (cutbox-rows.mjs): the forced cells as the released guide's own fill.sh prints them over the translation d3c2022c475adc4f… (all of the seat's roots in one cut). By AI agents, Wed Nov 11 2026. No macro, syntax, notation, axiom, sorry.
-/
import Derived.Test.YtaadlhcpgjibeaaDoorChecked
import GoSem.Claim
import GoSem.ClaimJoined
import GoSem.ClaimMapViews
import Derived.JoinedTies
import Derived.KernelRfl
namespace Go.Proofs.YtaadlhcpgjibeaaDoor
/- THE CELL 'sum', in the pinned program and in every row, IS THE sha256 OF THE DUMP (.gsa) THAT YtaadlhcpgjibeaaDoorProg.lean LOADS. Nothing in Lean hashes anything: it is a label: what it is worth is what the hold of that sum in a sandbox is worth. -/
noncomputable def Tryd.pinned : Pinned := { name := "ytaadlhcpgjibeaadoor", sum := "d3c2022c475adc4f13a9088f48b66a6f39cdcc3fffa2d36ff7112e4bbe329f46", checked := Tryd.checked }
namespace Rows
def none {H : Type} : Left H := { results := [], args := [] }

/- WHAT THE LISTED PACKAGE-LEVEL VARIABLES READ AS WHEN THE CALL BEGINS. Each datum BY PROGRAM (the guide's laid-datum.mjs) off the statement by which the dump's own 'gosem.cut.vars' lays the variable. In a bare row this is a premise. The card (YtaadlhcpgjibeaaDoorCards.lean) ties it to the program's text. -/
def laid_loop_example_g00064_impl_fieldWidths {H : Type} : DataW H := .agg [.lit (.int .i64 10), .lit (.int .i64 10), .lit (.int .i64 7)]

/-- 'laws.FnWire': WHATEVER THE INPUT: true; the input reads as it did. -/
def fnWireSpec : ChangeSpec := { name := "fnWire", vars := ["loop.example/g00064/impl.fieldWidths"], fn := fun _ => fun
  | [d1, d2, g1] => { results := [.lit (.bool true)], args := [d1, d2], vars := [g1] }
  | _ => none }
def fnWireRow : OpenClaim := { program := "ytaadlhcpgjibeaadoor", sum := "d3c2022c475adc4f13a9088f48b66a6f39cdcc3fffa2d36ff7112e4bbe329f46", func := "loop.example/g00064/laws.FnWire", spec := "fnWire", unfollowed := true, recurses := true, named := ["loop.example/g00064/impl.fieldWidths"], apart := false, laid := [("loop.example/g00064/impl.fieldWidths", laid_loop_example_g00064_impl_fieldWidths)] }
def FnWireSaid : Prop := fnWireRow.holds Tryd.pinned (OpenSpec.ofChange fnWireSpec)

/-- ITS FALSE NEIGHBOUR: 'it returns false'. Refute it at one input. -/
def fnWireWrong : ChangeSpec := { name := "fnWire", vars := ["loop.example/g00064/impl.fieldWidths"], fn := fun _ => fun
  | [d1, d2, g1] => { results := [.lit (.bool false)], args := [d1, d2], vars := [g1] }
  | _ => none }
def FnWireWrongFalsely : Prop := fnWireRow.holds Tryd.pinned (OpenSpec.ofChange fnWireWrong)

/-- 'laws.FnExactGoodThings': WHATEVER THE INPUT: true; the input reads as it did. -/
def fnExactGoodThingsSpec : ChangeSpec := { name := "fnExactGoodThings", vars := ["loop.example/g00064/impl.fieldWidths"], fn := fun _ => fun
  | [d, g1] => { results := [.lit (.bool true)], args := [d], vars := [g1] }
  | _ => none }
def fnExactGoodThingsRow : OpenClaim := { program := "ytaadlhcpgjibeaadoor", sum := "d3c2022c475adc4f13a9088f48b66a6f39cdcc3fffa2d36ff7112e4bbe329f46", func := "loop.example/g00064/laws.FnExactGoodThings", spec := "fnExactGoodThings", named := ["loop.example/g00064/impl.fieldWidths"], apart := false, laid := [("loop.example/g00064/impl.fieldWidths", laid_loop_example_g00064_impl_fieldWidths)] }
def FnExactGoodThingsSaid : Prop := fnExactGoodThingsRow.holds Tryd.pinned (OpenSpec.ofChange fnExactGoodThingsSpec)

/-- ITS FALSE NEIGHBOUR: 'it returns false'. Refute it at one input. -/
def fnExactGoodThingsWrong : ChangeSpec := { name := "fnExactGoodThings", vars := ["loop.example/g00064/impl.fieldWidths"], fn := fun _ => fun
  | [d, g1] => { results := [.lit (.bool false)], args := [d], vars := [g1] }
  | _ => none }
def FnExactGoodThingsWrongFalsely : Prop := fnExactGoodThingsRow.holds Tryd.pinned (OpenSpec.ofChange fnExactGoodThingsWrong)

/-- 'laws.FnExactDeltaOf': WHATEVER THE INPUT: true; the input reads as it did. -/
def fnExactDeltaOfSpec : ChangeSpec := { name := "fnExactDeltaOf", vars := ["loop.example/g00064/impl.fieldWidths"], fn := fun _ => fun
  | [d1, d2, g1] => { results := [.lit (.bool true)], args := [d1, d2], vars := [g1] }
  | _ => none }
def fnExactDeltaOfRow : OpenClaim := { program := "ytaadlhcpgjibeaadoor", sum := "d3c2022c475adc4f13a9088f48b66a6f39cdcc3fffa2d36ff7112e4bbe329f46", func := "loop.example/g00064/laws.FnExactDeltaOf", spec := "fnExactDeltaOf", unfollowed := true, recurses := true, named := ["loop.example/g00064/impl.fieldWidths"], apart := false, laid := [("loop.example/g00064/impl.fieldWidths", laid_loop_example_g00064_impl_fieldWidths)] }
def FnExactDeltaOfSaid : Prop := fnExactDeltaOfRow.holds Tryd.pinned (OpenSpec.ofChange fnExactDeltaOfSpec)

/-- ITS FALSE NEIGHBOUR: 'it returns false'. Refute it at one input. -/
def fnExactDeltaOfWrong : ChangeSpec := { name := "fnExactDeltaOf", vars := ["loop.example/g00064/impl.fieldWidths"], fn := fun _ => fun
  | [d1, d2, g1] => { results := [.lit (.bool false)], args := [d1, d2], vars := [g1] }
  | _ => none }
def FnExactDeltaOfWrongFalsely : Prop := fnExactDeltaOfRow.holds Tryd.pinned (OpenSpec.ofChange fnExactDeltaOfWrong)

/-- 'laws.FnExactApplyDelta': WHATEVER THE INPUT: true; the input reads as it did. -/
def fnExactApplyDeltaSpec : ChangeSpec := { name := "fnExactApplyDelta", vars := ["loop.example/g00064/impl.fieldWidths"], fn := fun _ => fun
  | [d1, d2, g1] => { results := [.lit (.bool true)], args := [d1, d2], vars := [g1] }
  | _ => none }
def fnExactApplyDeltaRow : OpenClaim := { program := "ytaadlhcpgjibeaadoor", sum := "d3c2022c475adc4f13a9088f48b66a6f39cdcc3fffa2d36ff7112e4bbe329f46", func := "loop.example/g00064/laws.FnExactApplyDelta", spec := "fnExactApplyDelta", unfollowed := true, recurses := true, named := ["loop.example/g00064/impl.fieldWidths"], apart := false, laid := [("loop.example/g00064/impl.fieldWidths", laid_loop_example_g00064_impl_fieldWidths)] }
def FnExactApplyDeltaSaid : Prop := fnExactApplyDeltaRow.holds Tryd.pinned (OpenSpec.ofChange fnExactApplyDeltaSpec)

/-- ITS FALSE NEIGHBOUR: 'it returns false'. Refute it at one input. -/
def fnExactApplyDeltaWrong : ChangeSpec := { name := "fnExactApplyDelta", vars := ["loop.example/g00064/impl.fieldWidths"], fn := fun _ => fun
  | [d1, d2, g1] => { results := [.lit (.bool false)], args := [d1, d2], vars := [g1] }
  | _ => none }
def FnExactApplyDeltaWrongFalsely : Prop := fnExactApplyDeltaRow.holds Tryd.pinned (OpenSpec.ofChange fnExactApplyDeltaWrong)

/-- 'laws.FnExactInterest': WHATEVER THE INPUT: true; the input reads as it did. -/
def fnExactInterestSpec : ChangeSpec := { name := "fnExactInterest", vars := ["loop.example/g00064/impl.fieldWidths"], fn := fun _ => fun
  | [d1, d2, d3, d4, d5, g1] => { results := [.lit (.bool true)], args := [d1, d2, d3, d4, d5], vars := [g1] }
  | _ => none }
def fnExactInterestRow : OpenClaim := { program := "ytaadlhcpgjibeaadoor", sum := "d3c2022c475adc4f13a9088f48b66a6f39cdcc3fffa2d36ff7112e4bbe329f46", func := "loop.example/g00064/laws.FnExactInterest", spec := "fnExactInterest", unfollowed := true, recurses := true, named := ["loop.example/g00064/impl.fieldWidths"], apart := false, laid := [("loop.example/g00064/impl.fieldWidths", laid_loop_example_g00064_impl_fieldWidths)] }
def FnExactInterestSaid : Prop := fnExactInterestRow.holds Tryd.pinned (OpenSpec.ofChange fnExactInterestSpec)

/-- ITS FALSE NEIGHBOUR: 'it returns false'. Refute it at one input. -/
def fnExactInterestWrong : ChangeSpec := { name := "fnExactInterest", vars := ["loop.example/g00064/impl.fieldWidths"], fn := fun _ => fun
  | [d1, d2, d3, d4, d5, g1] => { results := [.lit (.bool false)], args := [d1, d2, d3, d4, d5], vars := [g1] }
  | _ => none }
def FnExactInterestWrongFalsely : Prop := fnExactInterestRow.holds Tryd.pinned (OpenSpec.ofChange fnExactInterestWrong)

/-- 'laws.FnExactSeenAgo': WHATEVER THE INPUT: true; the input reads as it did. -/
def fnExactSeenAgoSpec : ChangeSpec := { name := "fnExactSeenAgo", vars := ["loop.example/g00064/impl.fieldWidths"], fn := fun _ => fun
  | [d1, d2, d3, g1] => { results := [.lit (.bool true)], args := [d1, d2, d3], vars := [g1] }
  | _ => none }
def fnExactSeenAgoRow : OpenClaim := { program := "ytaadlhcpgjibeaadoor", sum := "d3c2022c475adc4f13a9088f48b66a6f39cdcc3fffa2d36ff7112e4bbe329f46", func := "loop.example/g00064/laws.FnExactSeenAgo", spec := "fnExactSeenAgo", named := ["loop.example/g00064/impl.fieldWidths"], apart := false, laid := [("loop.example/g00064/impl.fieldWidths", laid_loop_example_g00064_impl_fieldWidths)] }
def FnExactSeenAgoSaid : Prop := fnExactSeenAgoRow.holds Tryd.pinned (OpenSpec.ofChange fnExactSeenAgoSpec)

/-- ITS FALSE NEIGHBOUR: 'it returns false'. Refute it at one input. -/
def fnExactSeenAgoWrong : ChangeSpec := { name := "fnExactSeenAgo", vars := ["loop.example/g00064/impl.fieldWidths"], fn := fun _ => fun
  | [d1, d2, d3, g1] => { results := [.lit (.bool false)], args := [d1, d2, d3], vars := [g1] }
  | _ => none }
def FnExactSeenAgoWrongFalsely : Prop := fnExactSeenAgoRow.holds Tryd.pinned (OpenSpec.ofChange fnExactSeenAgoWrong)

/- THE SECOND FORM. 'bulk': how many values and letters a reading holds, each counted each time it is reached (what is shared counts as often as it is met; a slice's spare places count too). A statement '..UptoSaid' is the law's where the arguments, and the package variables that the reading takes, are together of bulk at most 1048576: NARROWER than '..Said'. Prove '..Said' where nothing that the law and all that it calls make is longer than what came in: it says more and counts as full. Else prove '..UptoSaid'. A law counts once. -/
mutual
def uptoBulk {H : Type} : DataW H → Nat
  | .lit (.string bytes) => bytes.length + 1
  | .lit _ => 1
  | .nil => 1
  | .ptr d => uptoBulk d + 1
  | .slice elems spare => uptoBulkAll elems + uptoBulkAll spare + 1
  | .agg parts => uptoBulkAll parts + 1
  | .iface _ d => uptoBulk d + 1
  | .map entries => uptoBulkEntries entries + 1
  | .held _ => 1
def uptoBulkAll {H : Type} : List (DataW H) → Nat
  | [] => 0
  | d :: r => uptoBulk d + uptoBulkAll r
def uptoBulkEntries {H : Type} : List (Lit × DataW H) → Nat
  | [] => 0
  | x :: r => uptoBulkEntry x + uptoBulkEntries r
def uptoBulkEntry {H : Type} : Lit × DataW H → Nat
  | (.string bytes, d) => bytes.length + uptoBulk d + 1
  | (_, d) => uptoBulk d + 1
 end
def uptoSmall : (H : Type) → List (DataW H) → Bool := fun _ ds => decide (uptoBulkAll ds ≤ 1048576)
def OpenSpec.upto (s : _root_.Go.ChangeSpec) : _root_.Go.OpenSpec := { _root_.Go.OpenSpec.ofChange s with cond := some uptoSmall }

/-- 'laws.FnWire', WHERE WHAT IT READS IS OF BULK AT MOST 1048576: true; the input reads as it did. -/
def fnWireUptoRow : OpenClaim := { program := "ytaadlhcpgjibeaadoor", sum := "d3c2022c475adc4f13a9088f48b66a6f39cdcc3fffa2d36ff7112e4bbe329f46", func := "loop.example/g00064/laws.FnWire", spec := "fnWire", unfollowed := true, recurses := true, named := ["loop.example/g00064/impl.fieldWidths"], apart := false, laid := [("loop.example/g00064/impl.fieldWidths", laid_loop_example_g00064_impl_fieldWidths)], narrowed := true }
def FnWireUptoSaid : Prop := fnWireUptoRow.holds Tryd.pinned (OpenSpec.upto fnWireSpec)

/-- 'laws.FnExactGoodThings', WHERE WHAT IT READS IS OF BULK AT MOST 1048576: true; the input reads as it did. -/
def fnExactGoodThingsUptoRow : OpenClaim := { program := "ytaadlhcpgjibeaadoor", sum := "d3c2022c475adc4f13a9088f48b66a6f39cdcc3fffa2d36ff7112e4bbe329f46", func := "loop.example/g00064/laws.FnExactGoodThings", spec := "fnExactGoodThings", named := ["loop.example/g00064/impl.fieldWidths"], apart := false, laid := [("loop.example/g00064/impl.fieldWidths", laid_loop_example_g00064_impl_fieldWidths)], narrowed := true }
def FnExactGoodThingsUptoSaid : Prop := fnExactGoodThingsUptoRow.holds Tryd.pinned (OpenSpec.upto fnExactGoodThingsSpec)

/-- 'laws.FnExactDeltaOf', WHERE WHAT IT READS IS OF BULK AT MOST 1048576: true; the input reads as it did. -/
def fnExactDeltaOfUptoRow : OpenClaim := { program := "ytaadlhcpgjibeaadoor", sum := "d3c2022c475adc4f13a9088f48b66a6f39cdcc3fffa2d36ff7112e4bbe329f46", func := "loop.example/g00064/laws.FnExactDeltaOf", spec := "fnExactDeltaOf", unfollowed := true, recurses := true, named := ["loop.example/g00064/impl.fieldWidths"], apart := false, laid := [("loop.example/g00064/impl.fieldWidths", laid_loop_example_g00064_impl_fieldWidths)], narrowed := true }
def FnExactDeltaOfUptoSaid : Prop := fnExactDeltaOfUptoRow.holds Tryd.pinned (OpenSpec.upto fnExactDeltaOfSpec)

/-- 'laws.FnExactApplyDelta', WHERE WHAT IT READS IS OF BULK AT MOST 1048576: true; the input reads as it did. -/
def fnExactApplyDeltaUptoRow : OpenClaim := { program := "ytaadlhcpgjibeaadoor", sum := "d3c2022c475adc4f13a9088f48b66a6f39cdcc3fffa2d36ff7112e4bbe329f46", func := "loop.example/g00064/laws.FnExactApplyDelta", spec := "fnExactApplyDelta", unfollowed := true, recurses := true, named := ["loop.example/g00064/impl.fieldWidths"], apart := false, laid := [("loop.example/g00064/impl.fieldWidths", laid_loop_example_g00064_impl_fieldWidths)], narrowed := true }
def FnExactApplyDeltaUptoSaid : Prop := fnExactApplyDeltaUptoRow.holds Tryd.pinned (OpenSpec.upto fnExactApplyDeltaSpec)

/-- 'laws.FnExactInterest', WHERE WHAT IT READS IS OF BULK AT MOST 1048576: true; the input reads as it did. -/
def fnExactInterestUptoRow : OpenClaim := { program := "ytaadlhcpgjibeaadoor", sum := "d3c2022c475adc4f13a9088f48b66a6f39cdcc3fffa2d36ff7112e4bbe329f46", func := "loop.example/g00064/laws.FnExactInterest", spec := "fnExactInterest", unfollowed := true, recurses := true, named := ["loop.example/g00064/impl.fieldWidths"], apart := false, laid := [("loop.example/g00064/impl.fieldWidths", laid_loop_example_g00064_impl_fieldWidths)], narrowed := true }
def FnExactInterestUptoSaid : Prop := fnExactInterestUptoRow.holds Tryd.pinned (OpenSpec.upto fnExactInterestSpec)

/-- 'laws.FnExactSeenAgo', WHERE WHAT IT READS IS OF BULK AT MOST 1048576: true; the input reads as it did. -/
def fnExactSeenAgoUptoRow : OpenClaim := { program := "ytaadlhcpgjibeaadoor", sum := "d3c2022c475adc4f13a9088f48b66a6f39cdcc3fffa2d36ff7112e4bbe329f46", func := "loop.example/g00064/laws.FnExactSeenAgo", spec := "fnExactSeenAgo", named := ["loop.example/g00064/impl.fieldWidths"], apart := false, laid := [("loop.example/g00064/impl.fieldWidths", laid_loop_example_g00064_impl_fieldWidths)], narrowed := true }
def FnExactSeenAgoUptoSaid : Prop := fnExactSeenAgoUptoRow.holds Tryd.pinned (OpenSpec.upto fnExactSeenAgoSpec)

end Rows
end Go.Proofs.YtaadlhcpgjibeaaDoor
