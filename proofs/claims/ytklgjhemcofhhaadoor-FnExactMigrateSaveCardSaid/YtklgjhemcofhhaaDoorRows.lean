/-
  NARROWER THAN 'FOR EVERY INPUT', by the rows' own cells (each row's printed sentence says how): FnExactReadSave: ifaces, laid · FnExactMigrateSave: ifaces, laid.
  DERIVED. THE GIVEN ROWS OF THIS SEAT. 2 by the template 'for every input the law returns true; each argument reads behind the call as it read before'; 0 by the template 'total and deterministic' (their statements: YtklgjhemcofhhaaDoorTotals.lean).
  GIVEN WITH THE SEED: the statements are not yours to turn. If you find one false, say at which input.
  Laid BY PROGRAM, IN A SANDBOX (cutbox-rows.mjs): the forced cells as the released guide's own fill.sh prints them over the translation a93f1fa340a8beb6… (all of the seat's roots in one cut). By AI agents, Wed Nov 11 2026. No macro, syntax, notation, axiom, sorry.
-/
import Derived.Test.YtklgjhemcofhhaaDoorChecked
import GoSem.Claim
import GoSem.ClaimJoined
import GoSem.ClaimMapViews
import Derived.JoinedTies
import Derived.KernelRfl
namespace Go.Proofs.YtklgjhemcofhhaaDoor
/- THE CELL 'sum', in the pinned program and in every row, IS THE sha256 OF THE DUMP (.gsa) THAT YtklgjhemcofhhaaDoorProg.lean LOADS. Nothing in Lean hashes anything: it is a label: what it is worth is what the hold of that sum in a sandbox is worth. -/
noncomputable def Tryd.pinned : Pinned := { name := "ytklgjhemcofhhaadoor", sum := "a93f1fa340a8beb63e91d81d30a7fcb0db160298f7dc0e2c51fe25f8a272513f", checked := Tryd.checked }
namespace Rows
def none {H : Type} : Left H := { results := [], args := [] }

/- WHAT THE LISTED PACKAGE-LEVEL VARIABLES READ AS WHEN THE CALL BEGINS. Each datum BY PROGRAM (the guide's laid-datum.mjs) off the statement by which the dump's own 'gosem.cut.vars' lays the variable. In a bare row this is a premise. The card (YtklgjhemcofhhaaDoorCards.lean) ties it to the program's text. -/
def laid_errors_errorType {H : Type} : DataW H := .iface "internal/reflectlite.rtype" (.agg [.ptr (.lit (.string [101, 114, 114, 111, 114]))])
def laid_loop_example_g00064_impl_errTooLong {H : Type} : DataW H := .iface "*errors.errorString" (.ptr (.agg [.lit (.string [109, 111, 114, 101, 32, 98, 121, 116, 101, 115, 32, 116, 104, 97, 110, 32, 97, 32, 115, 97, 118, 101, 32, 109, 97, 121, 32, 104, 97, 118, 101])]))
def laid_loop_example_g00064_impl_errLacks {H : Type} : DataW H := .iface "*errors.errorString" (.ptr (.agg [.lit (.string [98, 121, 116, 101, 115, 32, 108, 97, 99, 107])]))
def laid_loop_example_g00064_impl_errLeft {H : Type} : DataW H := .iface "*errors.errorString" (.ptr (.agg [.lit (.string [98, 121, 116, 101, 115, 32, 97, 114, 101, 32, 108, 101, 102, 116])]))
def laid_loop_example_g00064_impl_errMark {H : Type} : DataW H := .iface "*errors.errorString" (.ptr (.agg [.lit (.string [97, 110, 111, 116, 104, 101, 114, 32, 109, 97, 114, 107, 32, 116, 104, 97, 110, 32, 97, 32, 115, 97, 118, 101, 39, 115])]))
def laid_loop_example_g00064_impl_errDigest {H : Type} : DataW H := .iface "*errors.errorString" (.ptr (.agg [.lit (.string [97, 110, 111, 116, 104, 101, 114, 32, 100, 105, 103, 101, 115, 116, 32, 116, 104, 97, 110, 32, 116, 104, 97, 116, 32, 111, 102, 32, 116, 104, 101, 32, 98, 121, 116, 101, 115])]))
def laid_loop_example_g00064_impl_errContent {H : Type} : DataW H := .iface "*errors.errorString" (.ptr (.agg [.lit (.string [97, 32, 118, 101, 114, 115, 105, 111, 110, 32, 111, 114, 32, 118, 97, 108, 117, 101, 115, 32, 116, 104, 97, 116, 32, 97, 114, 101, 32, 110, 111, 116, 32, 103, 111, 111, 100])]))
def laid_loop_example_g00064_impl_errArguments {H : Type} : DataW H := .iface "*errors.errorString" (.ptr (.agg [.lit (.string [97, 32, 118, 101, 114, 115, 105, 111, 110, 44, 32, 118, 97, 108, 117, 101, 115, 32, 111, 114, 32, 99, 104, 97, 110, 103, 101, 115, 32, 116, 104, 97, 116, 32, 97, 114, 101, 32, 110, 111, 116, 32, 103, 111, 111, 100])]))
def laid_loop_example_g00064_impl_errTaken {H : Type} : DataW H := .iface "*errors.errorString" (.ptr (.agg [.lit (.string [97, 32, 110, 97, 109, 101, 32, 116, 104, 97, 116, 32, 97, 110, 111, 116, 104, 101, 114, 32, 118, 97, 108, 117, 101, 32, 104, 97, 115])]))
def laid_loop_example_g00064_impl_errBeyond {H : Type} : DataW H := .iface "*errors.errorString" (.ptr (.agg [.lit (.string [97, 32, 110, 117, 109, 98, 101, 114, 32, 98, 101, 121, 111, 110, 100, 32, 105, 116, 115, 32, 98, 111, 117, 110, 100, 115])]))
def laid_loop_example_g00064_impl_errCrowded {H : Type} : DataW H := .iface "*errors.errorString" (.ptr (.agg [.lit (.string [116, 111, 111, 32, 109, 97, 110, 121, 32, 118, 97, 108, 117, 101, 115])]))

/-- 'laws.FnExactReadSave': WHATEVER THE INPUT: true; the input reads as it did. -/
def fnExactReadSaveSpec : ChangeSpec := { name := "fnExactReadSave", vars := ["loop.example/g00064/impl.errContent", "loop.example/g00064/impl.errTooLong", "loop.example/g00064/impl.errLacks", "loop.example/g00064/impl.errMark", "loop.example/g00064/impl.errDigest", "loop.example/g00064/impl.errLeft"], fn := fun _ => fun
  | [d, g1, g2, g3, g4, g5, g6] => { results := [.lit (.bool true)], args := [d], vars := [g1, g2, g3, g4, g5, g6] }
  | _ => none }
def fnExactReadSaveRow : OpenClaim := { program := "ytklgjhemcofhhaadoor", sum := "a93f1fa340a8beb63e91d81d30a7fcb0db160298f7dc0e2c51fe25f8a272513f", func := "loop.example/g00064/laws.FnExactReadSave", spec := "fnExactReadSave", inPlace := ["internal/reflectlite.TypeOf", "internal/reflectlite.ValueOf", "(internal/reflectlite.Value).Type", "(internal/reflectlite.Value).IsNil", "(internal/reflectlite.Value).Elem", "(internal/reflectlite.Value).Set"], unfollowed := true, recurses := true, named := ["loop.example/g00064/impl.errContent", "loop.example/g00064/impl.errTooLong", "loop.example/g00064/impl.errLacks", "loop.example/g00064/impl.errMark", "loop.example/g00064/impl.errDigest", "loop.example/g00064/impl.errLeft", "errors.errorType"], ifaces := true, apart := false, laid := [("errors.errorType", laid_errors_errorType), ("loop.example/g00064/impl.errTooLong", laid_loop_example_g00064_impl_errTooLong), ("loop.example/g00064/impl.errLacks", laid_loop_example_g00064_impl_errLacks), ("loop.example/g00064/impl.errLeft", laid_loop_example_g00064_impl_errLeft), ("loop.example/g00064/impl.errMark", laid_loop_example_g00064_impl_errMark), ("loop.example/g00064/impl.errDigest", laid_loop_example_g00064_impl_errDigest), ("loop.example/g00064/impl.errContent", laid_loop_example_g00064_impl_errContent)] }
def FnExactReadSaveSaid : Prop := fnExactReadSaveRow.holds Tryd.pinned (OpenSpec.ofChange fnExactReadSaveSpec)

/-- ITS FALSE NEIGHBOUR: 'it returns false'. Refute it at one input. -/
def fnExactReadSaveWrong : ChangeSpec := { name := "fnExactReadSave", vars := ["loop.example/g00064/impl.errContent", "loop.example/g00064/impl.errTooLong", "loop.example/g00064/impl.errLacks", "loop.example/g00064/impl.errMark", "loop.example/g00064/impl.errDigest", "loop.example/g00064/impl.errLeft"], fn := fun _ => fun
  | [d, g1, g2, g3, g4, g5, g6] => { results := [.lit (.bool false)], args := [d], vars := [g1, g2, g3, g4, g5, g6] }
  | _ => none }
def FnExactReadSaveWrongFalsely : Prop := fnExactReadSaveRow.holds Tryd.pinned (OpenSpec.ofChange fnExactReadSaveWrong)

/-- 'laws.FnExactMigrateSave': WHATEVER THE INPUT: true; the input reads as it did. -/
def fnExactMigrateSaveSpec : ChangeSpec := { name := "fnExactMigrateSave", vars := ["loop.example/g00064/impl.errArguments", "loop.example/g00064/impl.errCrowded", "loop.example/g00064/impl.errTaken", "loop.example/g00064/impl.errBeyond"], fn := fun _ => fun
  | [d1, d2, d3, g1, g2, g3, g4] => { results := [.lit (.bool true)], args := [d1, d2, d3], vars := [g1, g2, g3, g4] }
  | _ => none }
def fnExactMigrateSaveRow : OpenClaim := { program := "ytklgjhemcofhhaadoor", sum := "a93f1fa340a8beb63e91d81d30a7fcb0db160298f7dc0e2c51fe25f8a272513f", func := "loop.example/g00064/laws.FnExactMigrateSave", spec := "fnExactMigrateSave", inPlace := ["internal/bytealg.abigen_runtime_cmpstring", "slices.overlaps[loop.example/g00064/impl.Value]"], unfollowed := true, recurses := true, named := ["loop.example/g00064/impl.errArguments", "loop.example/g00064/impl.errCrowded", "loop.example/g00064/impl.errTaken", "loop.example/g00064/impl.errBeyond"], ifaces := true, apart := false, laid := [("loop.example/g00064/impl.errArguments", laid_loop_example_g00064_impl_errArguments), ("loop.example/g00064/impl.errTaken", laid_loop_example_g00064_impl_errTaken), ("loop.example/g00064/impl.errBeyond", laid_loop_example_g00064_impl_errBeyond), ("loop.example/g00064/impl.errCrowded", laid_loop_example_g00064_impl_errCrowded)] }
def FnExactMigrateSaveSaid : Prop := fnExactMigrateSaveRow.holds Tryd.pinned (OpenSpec.ofChange fnExactMigrateSaveSpec)

/-- ITS FALSE NEIGHBOUR: 'it returns false'. Refute it at one input. -/
def fnExactMigrateSaveWrong : ChangeSpec := { name := "fnExactMigrateSave", vars := ["loop.example/g00064/impl.errArguments", "loop.example/g00064/impl.errCrowded", "loop.example/g00064/impl.errTaken", "loop.example/g00064/impl.errBeyond"], fn := fun _ => fun
  | [d1, d2, d3, g1, g2, g3, g4] => { results := [.lit (.bool false)], args := [d1, d2, d3], vars := [g1, g2, g3, g4] }
  | _ => none }
def FnExactMigrateSaveWrongFalsely : Prop := fnExactMigrateSaveRow.holds Tryd.pinned (OpenSpec.ofChange fnExactMigrateSaveWrong)

/- THE SECOND FORM. 'bulk': how many values and letters a reading holds, each counted each time it is reached (what is shared counts as often as it is met; a slice's spare places count too). A statement '..UptoSaid' is the law's where the arguments, and the package variables that the reading takes, are together of bulk at most 1048576: NARROWER than '..Said'. Prove '..Said' where nothing that the law and all that it calls make is longer than what came in: it says more and counts as full. Else prove '..UptoSaid'. A law counts once. -/
mutual
def uptoBulk {H : Type} : DataW H → Nat
  | .lit (.string bytes) => bytes.length + 1
  | .lit _ => 1
  | .nil => 1
  | .ptr d => uptoBulk d + 1
  | .slice elems spare => uptoBulkAll elems + uptoBulkAll spare + 1
  | .agg parts => uptoBulkAll parts + 1
  | .iface _ d => uptoBulk d + 1
  | .map entries => uptoBulkEntries entries + 1
  | .held _ => 1
def uptoBulkAll {H : Type} : List (DataW H) → Nat
  | [] => 0
  | d :: r => uptoBulk d + uptoBulkAll r
def uptoBulkEntries {H : Type} : List (Lit × DataW H) → Nat
  | [] => 0
  | x :: r => uptoBulkEntry x + uptoBulkEntries r
def uptoBulkEntry {H : Type} : Lit × DataW H → Nat
  | (.string bytes, d) => bytes.length + uptoBulk d + 1
  | (_, d) => uptoBulk d + 1
 end
def uptoSmall : (H : Type) → List (DataW H) → Bool := fun _ ds => decide (uptoBulkAll ds ≤ 1048576)
def OpenSpec.upto (s : _root_.Go.ChangeSpec) : _root_.Go.OpenSpec := { _root_.Go.OpenSpec.ofChange s with cond := some uptoSmall }

/-- 'laws.FnExactReadSave', WHERE WHAT IT READS IS OF BULK AT MOST 1048576: true; the input reads as it did. -/
def fnExactReadSaveUptoRow : OpenClaim := { program := "ytklgjhemcofhhaadoor", sum := "a93f1fa340a8beb63e91d81d30a7fcb0db160298f7dc0e2c51fe25f8a272513f", func := "loop.example/g00064/laws.FnExactReadSave", spec := "fnExactReadSave", inPlace := ["internal/reflectlite.TypeOf", "internal/reflectlite.ValueOf", "(internal/reflectlite.Value).Type", "(internal/reflectlite.Value).IsNil", "(internal/reflectlite.Value).Elem", "(internal/reflectlite.Value).Set"], unfollowed := true, recurses := true, named := ["loop.example/g00064/impl.errContent", "loop.example/g00064/impl.errTooLong", "loop.example/g00064/impl.errLacks", "loop.example/g00064/impl.errMark", "loop.example/g00064/impl.errDigest", "loop.example/g00064/impl.errLeft", "errors.errorType"], ifaces := true, apart := false, laid := [("errors.errorType", laid_errors_errorType), ("loop.example/g00064/impl.errTooLong", laid_loop_example_g00064_impl_errTooLong), ("loop.example/g00064/impl.errLacks", laid_loop_example_g00064_impl_errLacks), ("loop.example/g00064/impl.errLeft", laid_loop_example_g00064_impl_errLeft), ("loop.example/g00064/impl.errMark", laid_loop_example_g00064_impl_errMark), ("loop.example/g00064/impl.errDigest", laid_loop_example_g00064_impl_errDigest), ("loop.example/g00064/impl.errContent", laid_loop_example_g00064_impl_errContent)], narrowed := true }
def FnExactReadSaveUptoSaid : Prop := fnExactReadSaveUptoRow.holds Tryd.pinned (OpenSpec.upto fnExactReadSaveSpec)

/-- 'laws.FnExactMigrateSave', WHERE WHAT IT READS IS OF BULK AT MOST 1048576: true; the input reads as it did. -/
def fnExactMigrateSaveUptoRow : OpenClaim := { program := "ytklgjhemcofhhaadoor", sum := "a93f1fa340a8beb63e91d81d30a7fcb0db160298f7dc0e2c51fe25f8a272513f", func := "loop.example/g00064/laws.FnExactMigrateSave", spec := "fnExactMigrateSave", inPlace := ["internal/bytealg.abigen_runtime_cmpstring", "slices.overlaps[loop.example/g00064/impl.Value]"], unfollowed := true, recurses := true, named := ["loop.example/g00064/impl.errArguments", "loop.example/g00064/impl.errCrowded", "loop.example/g00064/impl.errTaken", "loop.example/g00064/impl.errBeyond"], ifaces := true, apart := false, laid := [("loop.example/g00064/impl.errArguments", laid_loop_example_g00064_impl_errArguments), ("loop.example/g00064/impl.errTaken", laid_loop_example_g00064_impl_errTaken), ("loop.example/g00064/impl.errBeyond", laid_loop_example_g00064_impl_errBeyond), ("loop.example/g00064/impl.errCrowded", laid_loop_example_g00064_impl_errCrowded)], narrowed := true }
def FnExactMigrateSaveUptoSaid : Prop := fnExactMigrateSaveUptoRow.holds Tryd.pinned (OpenSpec.upto fnExactMigrateSaveSpec)

end Rows
end Go.Proofs.YtklgjhemcofhhaaDoor
