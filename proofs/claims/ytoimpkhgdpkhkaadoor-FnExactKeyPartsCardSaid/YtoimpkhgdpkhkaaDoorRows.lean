/-
  NARROWER THAN 'FOR EVERY INPUT', by the rows' own cells (each row's printed sentence says how): FnLots: laid · FnExactSortKey: laid · FnExactKeyParts: laid · FnExactLotsOf: laid.
  DERIVED. THE GIVEN ROWS OF THIS SEAT. 4 by the template 'for every input the law returns true; each argument reads behind the call as it read before'; 0 by the template 'total and deterministic' (their statements: YtoimpkhgdpkhkaaDoorTotals.lean).
  GIVEN WITH THE SEED: the statements are not yours to turn. If you find one false, say at which input.
  Laid BY PROGRAM, IN A SANDBOX (cutbox-rows.mjs): the forced cells as the released guide's own fill.sh prints them over the translation b7b174c1f1886ac7… (all of the seat's roots in one cut). By AI agents, Wed Nov 11 2026. No macro, syntax, notation, axiom, sorry.
-/
import Derived.Test.YtoimpkhgdpkhkaaDoorChecked
import GoSem.Claim
import GoSem.ClaimJoined
import GoSem.ClaimMapViews
import Derived.JoinedTies
import Derived.KernelRfl
namespace Go.Proofs.YtoimpkhgdpkhkaaDoor
/- THE CELL 'sum', in the pinned program and in every row, IS THE sha256 OF THE DUMP (.gsa) THAT YtoimpkhgdpkhkaaDoorProg.lean LOADS. Nothing in Lean hashes anything: it is a label: what it is worth is what the hold of that sum in a sandbox is worth. -/
noncomputable def Tryd.pinned : Pinned := { name := "ytoimpkhgdpkhkaadoor", sum := "b7b174c1f1886ac7721728100b85e065662b871f0a798a3994c076a35c1f8ee6", checked := Tryd.checked }
namespace Rows
def none {H : Type} : Left H := { results := [], args := [] }

/- WHAT THE LISTED PACKAGE-LEVEL VARIABLES READ AS WHEN THE CALL BEGINS. Each datum BY PROGRAM (the guide's laid-datum.mjs) off the statement by which the dump's own 'gosem.cut.vars' lays the variable. In a bare row this is a premise. The card (YtoimpkhgdpkhkaaDoorCards.lean) ties it to the program's text. -/
def laid_loop_example_g00064_impl_bitsOfPart {H : Type} : DataW H := .agg [.lit (.int .i64 3), .lit (.int .i64 1), .lit (.int .i64 8), .lit (.int .i64 8), .lit (.int .i64 12)]

/-- 'laws.FnLots': WHATEVER THE INPUT: true; the input reads as it did. -/
def fnLotsSpec : ChangeSpec := { name := "fnLots", vars := ["loop.example/g00064/impl.bitsOfPart"], fn := fun _ => fun
  | [d1, d2, g1] => { results := [.lit (.bool true)], args := [d1, d2], vars := [g1] }
  | _ => none }
def fnLotsRow : OpenClaim := { program := "ytoimpkhgdpkhkaadoor", sum := "b7b174c1f1886ac7721728100b85e065662b871f0a798a3994c076a35c1f8ee6", func := "loop.example/g00064/laws.FnLots", spec := "fnLots", unfollowed := true, recurses := true, named := ["loop.example/g00064/impl.bitsOfPart"], apart := false, laid := [("loop.example/g00064/impl.bitsOfPart", laid_loop_example_g00064_impl_bitsOfPart)] }
def FnLotsSaid : Prop := fnLotsRow.holds Tryd.pinned (OpenSpec.ofChange fnLotsSpec)

/-- ITS FALSE NEIGHBOUR: 'it returns false'. Refute it at one input. -/
def fnLotsWrong : ChangeSpec := { name := "fnLots", vars := ["loop.example/g00064/impl.bitsOfPart"], fn := fun _ => fun
  | [d1, d2, g1] => { results := [.lit (.bool false)], args := [d1, d2], vars := [g1] }
  | _ => none }
def FnLotsWrongFalsely : Prop := fnLotsRow.holds Tryd.pinned (OpenSpec.ofChange fnLotsWrong)

/-- 'laws.FnExactSortKey': WHATEVER THE INPUT: true; the input reads as it did. -/
def fnExactSortKeySpec : ChangeSpec := { name := "fnExactSortKey", vars := ["loop.example/g00064/impl.bitsOfPart"], fn := fun _ => fun
  | [d, g1] => { results := [.lit (.bool true)], args := [d], vars := [g1] }
  | _ => none }
def fnExactSortKeyRow : OpenClaim := { program := "ytoimpkhgdpkhkaadoor", sum := "b7b174c1f1886ac7721728100b85e065662b871f0a798a3994c076a35c1f8ee6", func := "loop.example/g00064/laws.FnExactSortKey", spec := "fnExactSortKey", named := ["loop.example/g00064/impl.bitsOfPart"], apart := false, laid := [("loop.example/g00064/impl.bitsOfPart", laid_loop_example_g00064_impl_bitsOfPart)] }
def FnExactSortKeySaid : Prop := fnExactSortKeyRow.holds Tryd.pinned (OpenSpec.ofChange fnExactSortKeySpec)

/-- ITS FALSE NEIGHBOUR: 'it returns false'. Refute it at one input. -/
def fnExactSortKeyWrong : ChangeSpec := { name := "fnExactSortKey", vars := ["loop.example/g00064/impl.bitsOfPart"], fn := fun _ => fun
  | [d, g1] => { results := [.lit (.bool false)], args := [d], vars := [g1] }
  | _ => none }
def FnExactSortKeyWrongFalsely : Prop := fnExactSortKeyRow.holds Tryd.pinned (OpenSpec.ofChange fnExactSortKeyWrong)

/-- 'laws.FnExactKeyParts': WHATEVER THE INPUT: true; the input reads as it did. -/
def fnExactKeyPartsSpec : ChangeSpec := { name := "fnExactKeyParts", vars := ["loop.example/g00064/impl.bitsOfPart"], fn := fun _ => fun
  | [d, g1] => { results := [.lit (.bool true)], args := [d], vars := [g1] }
  | _ => none }
def fnExactKeyPartsRow : OpenClaim := { program := "ytoimpkhgdpkhkaadoor", sum := "b7b174c1f1886ac7721728100b85e065662b871f0a798a3994c076a35c1f8ee6", func := "loop.example/g00064/laws.FnExactKeyParts", spec := "fnExactKeyParts", unfollowed := true, recurses := true, named := ["loop.example/g00064/impl.bitsOfPart"], apart := false, laid := [("loop.example/g00064/impl.bitsOfPart", laid_loop_example_g00064_impl_bitsOfPart)] }
def FnExactKeyPartsSaid : Prop := fnExactKeyPartsRow.holds Tryd.pinned (OpenSpec.ofChange fnExactKeyPartsSpec)

/-- ITS FALSE NEIGHBOUR: 'it returns false'. Refute it at one input. -/
def fnExactKeyPartsWrong : ChangeSpec := { name := "fnExactKeyParts", vars := ["loop.example/g00064/impl.bitsOfPart"], fn := fun _ => fun
  | [d, g1] => { results := [.lit (.bool false)], args := [d], vars := [g1] }
  | _ => none }
def FnExactKeyPartsWrongFalsely : Prop := fnExactKeyPartsRow.holds Tryd.pinned (OpenSpec.ofChange fnExactKeyPartsWrong)

/-- 'laws.FnExactLotsOf': WHATEVER THE INPUT: true; the input reads as it did. -/
def fnExactLotsOfSpec : ChangeSpec := { name := "fnExactLotsOf", vars := ["loop.example/g00064/impl.bitsOfPart"], fn := fun _ => fun
  | [d1, d2, g1] => { results := [.lit (.bool true)], args := [d1, d2], vars := [g1] }
  | _ => none }
def fnExactLotsOfRow : OpenClaim := { program := "ytoimpkhgdpkhkaadoor", sum := "b7b174c1f1886ac7721728100b85e065662b871f0a798a3994c076a35c1f8ee6", func := "loop.example/g00064/laws.FnExactLotsOf", spec := "fnExactLotsOf", unfollowed := true, recurses := true, named := ["loop.example/g00064/impl.bitsOfPart"], apart := false, laid := [("loop.example/g00064/impl.bitsOfPart", laid_loop_example_g00064_impl_bitsOfPart)] }
def FnExactLotsOfSaid : Prop := fnExactLotsOfRow.holds Tryd.pinned (OpenSpec.ofChange fnExactLotsOfSpec)

/-- ITS FALSE NEIGHBOUR: 'it returns false'. Refute it at one input. -/
def fnExactLotsOfWrong : ChangeSpec := { name := "fnExactLotsOf", vars := ["loop.example/g00064/impl.bitsOfPart"], fn := fun _ => fun
  | [d1, d2, g1] => { results := [.lit (.bool false)], args := [d1, d2], vars := [g1] }
  | _ => none }
def FnExactLotsOfWrongFalsely : Prop := fnExactLotsOfRow.holds Tryd.pinned (OpenSpec.ofChange fnExactLotsOfWrong)

/- THE SECOND FORM. 'bulk': how many values and letters a reading holds, each counted each time it is reached (what is shared counts as often as it is met; a slice's spare places count too). A statement '..UptoSaid' is the law's where the arguments, and the package variables that the reading takes, are together of bulk at most 1048576: NARROWER than '..Said'. Prove '..Said' where nothing that the law and all that it calls make is longer than what came in: it says more and counts as full. Else prove '..UptoSaid'. A law counts once. -/
mutual
def uptoBulk {H : Type} : DataW H → Nat
  | .lit (.string bytes) => bytes.length + 1
  | .lit _ => 1
  | .nil => 1
  | .ptr d => uptoBulk d + 1
  | .slice elems spare => uptoBulkAll elems + uptoBulkAll spare + 1
  | .agg parts => uptoBulkAll parts + 1
  | .iface _ d => uptoBulk d + 1
  | .map entries => uptoBulkEntries entries + 1
  | .held _ => 1
def uptoBulkAll {H : Type} : List (DataW H) → Nat
  | [] => 0
  | d :: r => uptoBulk d + uptoBulkAll r
def uptoBulkEntries {H : Type} : List (Lit × DataW H) → Nat
  | [] => 0
  | x :: r => uptoBulkEntry x + uptoBulkEntries r
def uptoBulkEntry {H : Type} : Lit × DataW H → Nat
  | (.string bytes, d) => bytes.length + uptoBulk d + 1
  | (_, d) => uptoBulk d + 1
 end
def uptoSmall : (H : Type) → List (DataW H) → Bool := fun _ ds => decide (uptoBulkAll ds ≤ 1048576)
def OpenSpec.upto (s : _root_.Go.ChangeSpec) : _root_.Go.OpenSpec := { _root_.Go.OpenSpec.ofChange s with cond := some uptoSmall }

/-- 'laws.FnLots', WHERE WHAT IT READS IS OF BULK AT MOST 1048576: true; the input reads as it did. -/
def fnLotsUptoRow : OpenClaim := { program := "ytoimpkhgdpkhkaadoor", sum := "b7b174c1f1886ac7721728100b85e065662b871f0a798a3994c076a35c1f8ee6", func := "loop.example/g00064/laws.FnLots", spec := "fnLots", unfollowed := true, recurses := true, named := ["loop.example/g00064/impl.bitsOfPart"], apart := false, laid := [("loop.example/g00064/impl.bitsOfPart", laid_loop_example_g00064_impl_bitsOfPart)], narrowed := true }
def FnLotsUptoSaid : Prop := fnLotsUptoRow.holds Tryd.pinned (OpenSpec.upto fnLotsSpec)

/-- 'laws.FnExactSortKey', WHERE WHAT IT READS IS OF BULK AT MOST 1048576: true; the input reads as it did. -/
def fnExactSortKeyUptoRow : OpenClaim := { program := "ytoimpkhgdpkhkaadoor", sum := "b7b174c1f1886ac7721728100b85e065662b871f0a798a3994c076a35c1f8ee6", func := "loop.example/g00064/laws.FnExactSortKey", spec := "fnExactSortKey", named := ["loop.example/g00064/impl.bitsOfPart"], apart := false, laid := [("loop.example/g00064/impl.bitsOfPart", laid_loop_example_g00064_impl_bitsOfPart)], narrowed := true }
def FnExactSortKeyUptoSaid : Prop := fnExactSortKeyUptoRow.holds Tryd.pinned (OpenSpec.upto fnExactSortKeySpec)

/-- 'laws.FnExactKeyParts', WHERE WHAT IT READS IS OF BULK AT MOST 1048576: true; the input reads as it did. -/
def fnExactKeyPartsUptoRow : OpenClaim := { program := "ytoimpkhgdpkhkaadoor", sum := "b7b174c1f1886ac7721728100b85e065662b871f0a798a3994c076a35c1f8ee6", func := "loop.example/g00064/laws.FnExactKeyParts", spec := "fnExactKeyParts", unfollowed := true, recurses := true, named := ["loop.example/g00064/impl.bitsOfPart"], apart := false, laid := [("loop.example/g00064/impl.bitsOfPart", laid_loop_example_g00064_impl_bitsOfPart)], narrowed := true }
def FnExactKeyPartsUptoSaid : Prop := fnExactKeyPartsUptoRow.holds Tryd.pinned (OpenSpec.upto fnExactKeyPartsSpec)

/-- 'laws.FnExactLotsOf', WHERE WHAT IT READS IS OF BULK AT MOST 1048576: true; the input reads as it did. -/
def fnExactLotsOfUptoRow : OpenClaim := { program := "ytoimpkhgdpkhkaadoor", sum := "b7b174c1f1886ac7721728100b85e065662b871f0a798a3994c076a35c1f8ee6", func := "loop.example/g00064/laws.FnExactLotsOf", spec := "fnExactLotsOf", unfollowed := true, recurses := true, named := ["loop.example/g00064/impl.bitsOfPart"], apart := false, laid := [("loop.example/g00064/impl.bitsOfPart", laid_loop_example_g00064_impl_bitsOfPart)], narrowed := true }
def FnExactLotsOfUptoSaid : Prop := fnExactLotsOfUptoRow.holds Tryd.pinned (OpenSpec.upto fnExactLotsOfSpec)

end Rows
end Go.Proofs.YtoimpkhgdpkhkaaDoor
