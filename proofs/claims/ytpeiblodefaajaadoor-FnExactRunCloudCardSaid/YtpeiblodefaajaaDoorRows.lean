/-
  NARROWER THAN 'FOR EVERY INPUT', by the rows' own cells (each row's printed sentence says how): FnSparks: laid · FnExactStepCloud: laid · FnExactRunCloud: laid · FnExactSparksAt: laid.
  DERIVED. THE GIVEN ROWS OF THIS SEAT. 4 by the template 'for every input the law returns true; each argument reads behind the call as it read before'; 0 by the template 'total and deterministic' (their statements: YtpeiblodefaajaaDoorTotals.lean).
  GIVEN WITH THE SEED: the statements are not yours to turn. If you find one false, say at which input.
  Laid BY PROGRAM, IN A SANDBOX (cutbox-rows.mjs): the forced cells as the released guide's own fill.sh prints them over the translation faf22150489e8fbe… (all of the seat's roots in one cut). By AI agents, Wed Nov 11 2026. No macro, syntax, notation, axiom, sorry.
-/
import Derived.Test.YtpeiblodefaajaaDoorChecked
import GoSem.Claim
import GoSem.ClaimJoined
import GoSem.ClaimMapViews
import Derived.JoinedTies
import Derived.KernelRfl
namespace Go.Proofs.YtpeiblodefaajaaDoor
/- THE CELL 'sum', in the pinned program and in every row, IS THE sha256 OF THE DUMP (.gsa) THAT YtpeiblodefaajaaDoorProg.lean LOADS. Nothing in Lean hashes anything: it is a label: what it is worth is what the hold of that sum in a sandbox is worth. -/
noncomputable def Tryd.pinned : Pinned := { name := "ytpeiblodefaajaadoor", sum := "faf22150489e8fbed2c5c0dfb3d68765cf1384c978b65adc4e0b5a72bfb41784", checked := Tryd.checked }
namespace Rows
def none {H : Type} : Left H := { results := [], args := [] }

/- WHAT THE LISTED PACKAGE-LEVEL VARIABLES READ AS WHEN THE CALL BEGINS. Each datum BY PROGRAM (the guide's laid-datum.mjs) off the statement by which the dump's own 'gosem.cut.vars' lays the variable. In a bare row this is a premise. The card (YtpeiblodefaajaaDoorCards.lean) ties it to the program's text. -/
def laid_loop_example_g00064_impl_sineTable {H : Type} : DataW H := .agg [.lit (.int .i64 0), .lit (.int .i64 6424), .lit (.int .i64 12785), .lit (.int .i64 19024), .lit (.int .i64 25080), .lit (.int .i64 30893), .lit (.int .i64 36410), .lit (.int .i64 41576), .lit (.int .i64 46341), .lit (.int .i64 50660), .lit (.int .i64 54491), .lit (.int .i64 57798), .lit (.int .i64 60547), .lit (.int .i64 62714), .lit (.int .i64 64277), .lit (.int .i64 65220), .lit (.int .i64 65536)]

/-- 'laws.FnSparks': WHATEVER THE INPUT: true; the input reads as it did. -/
def fnSparksSpec : ChangeSpec := { name := "fnSparks", vars := ["loop.example/g00064/impl.sineTable"], fn := fun _ => fun
  | [d1, d2, g1] => { results := [.lit (.bool true)], args := [d1, d2], vars := [g1] }
  | _ => none }
def fnSparksRow : OpenClaim := { program := "ytpeiblodefaajaadoor", sum := "faf22150489e8fbed2c5c0dfb3d68765cf1384c978b65adc4e0b5a72bfb41784", func := "loop.example/g00064/laws.FnSparks", spec := "fnSparks", unfollowed := true, recurses := true, named := ["loop.example/g00064/impl.sineTable"], apart := false, laid := [("loop.example/g00064/impl.sineTable", laid_loop_example_g00064_impl_sineTable)] }
def FnSparksSaid : Prop := fnSparksRow.holds Tryd.pinned (OpenSpec.ofChange fnSparksSpec)

/-- ITS FALSE NEIGHBOUR: 'it returns false'. Refute it at one input. -/
def fnSparksWrong : ChangeSpec := { name := "fnSparks", vars := ["loop.example/g00064/impl.sineTable"], fn := fun _ => fun
  | [d1, d2, g1] => { results := [.lit (.bool false)], args := [d1, d2], vars := [g1] }
  | _ => none }
def FnSparksWrongFalsely : Prop := fnSparksRow.holds Tryd.pinned (OpenSpec.ofChange fnSparksWrong)

/-- 'laws.FnExactStepCloud': WHATEVER THE INPUT: true; the input reads as it did. -/
def fnExactStepCloudSpec : ChangeSpec := { name := "fnExactStepCloud", vars := ["loop.example/g00064/impl.sineTable"], fn := fun _ => fun
  | [d1, d2, g1] => { results := [.lit (.bool true)], args := [d1, d2], vars := [g1] }
  | _ => none }
def fnExactStepCloudRow : OpenClaim := { program := "ytpeiblodefaajaadoor", sum := "faf22150489e8fbed2c5c0dfb3d68765cf1384c978b65adc4e0b5a72bfb41784", func := "loop.example/g00064/laws.FnExactStepCloud", spec := "fnExactStepCloud", unfollowed := true, recurses := true, named := ["loop.example/g00064/impl.sineTable"], apart := false, laid := [("loop.example/g00064/impl.sineTable", laid_loop_example_g00064_impl_sineTable)] }
def FnExactStepCloudSaid : Prop := fnExactStepCloudRow.holds Tryd.pinned (OpenSpec.ofChange fnExactStepCloudSpec)

/-- ITS FALSE NEIGHBOUR: 'it returns false'. Refute it at one input. -/
def fnExactStepCloudWrong : ChangeSpec := { name := "fnExactStepCloud", vars := ["loop.example/g00064/impl.sineTable"], fn := fun _ => fun
  | [d1, d2, g1] => { results := [.lit (.bool false)], args := [d1, d2], vars := [g1] }
  | _ => none }
def FnExactStepCloudWrongFalsely : Prop := fnExactStepCloudRow.holds Tryd.pinned (OpenSpec.ofChange fnExactStepCloudWrong)

/-- 'laws.FnExactRunCloud': WHATEVER THE INPUT: true; the input reads as it did. -/
def fnExactRunCloudSpec : ChangeSpec := { name := "fnExactRunCloud", vars := ["loop.example/g00064/impl.sineTable"], fn := fun _ => fun
  | [d1, d2, d3, g1] => { results := [.lit (.bool true)], args := [d1, d2, d3], vars := [g1] }
  | _ => none }
def fnExactRunCloudRow : OpenClaim := { program := "ytpeiblodefaajaadoor", sum := "faf22150489e8fbed2c5c0dfb3d68765cf1384c978b65adc4e0b5a72bfb41784", func := "loop.example/g00064/laws.FnExactRunCloud", spec := "fnExactRunCloud", unfollowed := true, recurses := true, named := ["loop.example/g00064/impl.sineTable"], apart := false, laid := [("loop.example/g00064/impl.sineTable", laid_loop_example_g00064_impl_sineTable)] }
def FnExactRunCloudSaid : Prop := fnExactRunCloudRow.holds Tryd.pinned (OpenSpec.ofChange fnExactRunCloudSpec)

/-- ITS FALSE NEIGHBOUR: 'it returns false'. Refute it at one input. -/
def fnExactRunCloudWrong : ChangeSpec := { name := "fnExactRunCloud", vars := ["loop.example/g00064/impl.sineTable"], fn := fun _ => fun
  | [d1, d2, d3, g1] => { results := [.lit (.bool false)], args := [d1, d2, d3], vars := [g1] }
  | _ => none }
def FnExactRunCloudWrongFalsely : Prop := fnExactRunCloudRow.holds Tryd.pinned (OpenSpec.ofChange fnExactRunCloudWrong)

/-- 'laws.FnExactSparksAt': WHATEVER THE INPUT: true; the input reads as it did. -/
def fnExactSparksAtSpec : ChangeSpec := { name := "fnExactSparksAt", vars := ["loop.example/g00064/impl.sineTable"], fn := fun _ => fun
  | [d1, d2, d3, g1] => { results := [.lit (.bool true)], args := [d1, d2, d3], vars := [g1] }
  | _ => none }
def fnExactSparksAtRow : OpenClaim := { program := "ytpeiblodefaajaadoor", sum := "faf22150489e8fbed2c5c0dfb3d68765cf1384c978b65adc4e0b5a72bfb41784", func := "loop.example/g00064/laws.FnExactSparksAt", spec := "fnExactSparksAt", unfollowed := true, recurses := true, named := ["loop.example/g00064/impl.sineTable"], apart := false, laid := [("loop.example/g00064/impl.sineTable", laid_loop_example_g00064_impl_sineTable)] }
def FnExactSparksAtSaid : Prop := fnExactSparksAtRow.holds Tryd.pinned (OpenSpec.ofChange fnExactSparksAtSpec)

/-- ITS FALSE NEIGHBOUR: 'it returns false'. Refute it at one input. -/
def fnExactSparksAtWrong : ChangeSpec := { name := "fnExactSparksAt", vars := ["loop.example/g00064/impl.sineTable"], fn := fun _ => fun
  | [d1, d2, d3, g1] => { results := [.lit (.bool false)], args := [d1, d2, d3], vars := [g1] }
  | _ => none }
def FnExactSparksAtWrongFalsely : Prop := fnExactSparksAtRow.holds Tryd.pinned (OpenSpec.ofChange fnExactSparksAtWrong)

/- THE SECOND FORM. 'bulk': how many values and letters a reading holds, each counted each time it is reached (what is shared counts as often as it is met; a slice's spare places count too). A statement '..UptoSaid' is the law's where the arguments, and the package variables that the reading takes, are together of bulk at most 1048576: NARROWER than '..Said'. Prove '..Said' where nothing that the law and all that it calls make is longer than what came in: it says more and counts as full. Else prove '..UptoSaid'. A law counts once. -/
mutual
def uptoBulk {H : Type} : DataW H → Nat
  | .lit (.string bytes) => bytes.length + 1
  | .lit _ => 1
  | .nil => 1
  | .ptr d => uptoBulk d + 1
  | .slice elems spare => uptoBulkAll elems + uptoBulkAll spare + 1
  | .agg parts => uptoBulkAll parts + 1
  | .iface _ d => uptoBulk d + 1
  | .map entries => uptoBulkEntries entries + 1
  | .held _ => 1
def uptoBulkAll {H : Type} : List (DataW H) → Nat
  | [] => 0
  | d :: r => uptoBulk d + uptoBulkAll r
def uptoBulkEntries {H : Type} : List (Lit × DataW H) → Nat
  | [] => 0
  | x :: r => uptoBulkEntry x + uptoBulkEntries r
def uptoBulkEntry {H : Type} : Lit × DataW H → Nat
  | (.string bytes, d) => bytes.length + uptoBulk d + 1
  | (_, d) => uptoBulk d + 1
 end
def uptoSmall : (H : Type) → List (DataW H) → Bool := fun _ ds => decide (uptoBulkAll ds ≤ 1048576)
def OpenSpec.upto (s : _root_.Go.ChangeSpec) : _root_.Go.OpenSpec := { _root_.Go.OpenSpec.ofChange s with cond := some uptoSmall }

/-- 'laws.FnSparks', WHERE WHAT IT READS IS OF BULK AT MOST 1048576: true; the input reads as it did. -/
def fnSparksUptoRow : OpenClaim := { program := "ytpeiblodefaajaadoor", sum := "faf22150489e8fbed2c5c0dfb3d68765cf1384c978b65adc4e0b5a72bfb41784", func := "loop.example/g00064/laws.FnSparks", spec := "fnSparks", unfollowed := true, recurses := true, named := ["loop.example/g00064/impl.sineTable"], apart := false, laid := [("loop.example/g00064/impl.sineTable", laid_loop_example_g00064_impl_sineTable)], narrowed := true }
def FnSparksUptoSaid : Prop := fnSparksUptoRow.holds Tryd.pinned (OpenSpec.upto fnSparksSpec)

/-- 'laws.FnExactStepCloud', WHERE WHAT IT READS IS OF BULK AT MOST 1048576: true; the input reads as it did. -/
def fnExactStepCloudUptoRow : OpenClaim := { program := "ytpeiblodefaajaadoor", sum := "faf22150489e8fbed2c5c0dfb3d68765cf1384c978b65adc4e0b5a72bfb41784", func := "loop.example/g00064/laws.FnExactStepCloud", spec := "fnExactStepCloud", unfollowed := true, recurses := true, named := ["loop.example/g00064/impl.sineTable"], apart := false, laid := [("loop.example/g00064/impl.sineTable", laid_loop_example_g00064_impl_sineTable)], narrowed := true }
def FnExactStepCloudUptoSaid : Prop := fnExactStepCloudUptoRow.holds Tryd.pinned (OpenSpec.upto fnExactStepCloudSpec)

/-- 'laws.FnExactRunCloud', WHERE WHAT IT READS IS OF BULK AT MOST 1048576: true; the input reads as it did. -/
def fnExactRunCloudUptoRow : OpenClaim := { program := "ytpeiblodefaajaadoor", sum := "faf22150489e8fbed2c5c0dfb3d68765cf1384c978b65adc4e0b5a72bfb41784", func := "loop.example/g00064/laws.FnExactRunCloud", spec := "fnExactRunCloud", unfollowed := true, recurses := true, named := ["loop.example/g00064/impl.sineTable"], apart := false, laid := [("loop.example/g00064/impl.sineTable", laid_loop_example_g00064_impl_sineTable)], narrowed := true }
def FnExactRunCloudUptoSaid : Prop := fnExactRunCloudUptoRow.holds Tryd.pinned (OpenSpec.upto fnExactRunCloudSpec)

/-- 'laws.FnExactSparksAt', WHERE WHAT IT READS IS OF BULK AT MOST 1048576: true; the input reads as it did. -/
def fnExactSparksAtUptoRow : OpenClaim := { program := "ytpeiblodefaajaadoor", sum := "faf22150489e8fbed2c5c0dfb3d68765cf1384c978b65adc4e0b5a72bfb41784", func := "loop.example/g00064/laws.FnExactSparksAt", spec := "fnExactSparksAt", unfollowed := true, recurses := true, named := ["loop.example/g00064/impl.sineTable"], apart := false, laid := [("loop.example/g00064/impl.sineTable", laid_loop_example_g00064_impl_sineTable)], narrowed := true }
def FnExactSparksAtUptoSaid : Prop := fnExactSparksAtUptoRow.holds Tryd.pinned (OpenSpec.upto fnExactSparksAtSpec)

end Rows
end Go.Proofs.YtpeiblodefaajaaDoor
