/-
  NARROWER THAN 'FOR EVERY INPUT', by the rows' own cells (each row's printed sentence says how): FnRound: laid · FnExactSinOf: laid · FnExactCosOf: laid · FnExactAngleOf: laid.
  DERIVED. THE GIVEN ROWS OF THIS SEAT. 4 by the template 'for every input the law returns true; each argument reads behind the call as it read before'; 0 by the template 'total and deterministic' (their statements: YtocjgpmplmillaaDoorTotals.lean).
  GIVEN WITH THE SEED: the statements are not yours to turn. If you find one false, say at which input.
  Laid BY PROGRAM, IN A SANDBOX (cutbox-rows.mjs): the forced cells as the released guide's own fill.sh prints them over the translation 4dffcb2d038dceaa… (all of the seat's roots in one cut). By AI agents, Wed Nov 11 2026. No macro, syntax, notation, axiom, sorry.
-/
import Derived.Test.YtocjgpmplmillaaDoorChecked
import GoSem.Claim
import GoSem.ClaimJoined
import GoSem.ClaimMapViews
import Derived.JoinedTies
import Derived.KernelRfl
namespace Go.Proofs.YtocjgpmplmillaaDoor
/- THE CELL 'sum', in the pinned program and in every row, IS THE sha256 OF THE DUMP (.gsa) THAT YtocjgpmplmillaaDoorProg.lean LOADS. Nothing in Lean hashes anything: it is a label: what it is worth is what the hold of that sum in a sandbox is worth. -/
noncomputable def Tryd.pinned : Pinned := { name := "ytocjgpmplmillaadoor", sum := "4dffcb2d038dceaa040c63ec70a264ef274c9f497a1339847ff64bb890cd3854", checked := Tryd.checked }
namespace Rows
def none {H : Type} : Left H := { results := [], args := [] }

/- WHAT THE LISTED PACKAGE-LEVEL VARIABLES READ AS WHEN THE CALL BEGINS. Each datum BY PROGRAM (the guide's laid-datum.mjs) off the statement by which the dump's own 'gosem.cut.vars' lays the variable. In a bare row this is a premise. The card (YtocjgpmplmillaaDoorCards.lean) ties it to the program's text. -/
def laid_loop_example_g00064_impl_sineTable {H : Type} : DataW H := .agg [.lit (.int .i64 0), .lit (.int .i64 6424), .lit (.int .i64 12785), .lit (.int .i64 19024), .lit (.int .i64 25080), .lit (.int .i64 30893), .lit (.int .i64 36410), .lit (.int .i64 41576), .lit (.int .i64 46341), .lit (.int .i64 50660), .lit (.int .i64 54491), .lit (.int .i64 57798), .lit (.int .i64 60547), .lit (.int .i64 62714), .lit (.int .i64 64277), .lit (.int .i64 65220), .lit (.int .i64 65536)]

/-- 'laws.FnRound': WHATEVER THE INPUT: true; the input reads as it did. -/
def fnRoundSpec : ChangeSpec := { name := "fnRound", vars := ["loop.example/g00064/impl.sineTable"], fn := fun _ => fun
  | [d1, d2, g1] => { results := [.lit (.bool true)], args := [d1, d2], vars := [g1] }
  | _ => none }
def fnRoundRow : OpenClaim := { program := "ytocjgpmplmillaadoor", sum := "4dffcb2d038dceaa040c63ec70a264ef274c9f497a1339847ff64bb890cd3854", func := "loop.example/g00064/laws.FnRound", spec := "fnRound", recurses := true, named := ["loop.example/g00064/impl.sineTable"], apart := false, laid := [("loop.example/g00064/impl.sineTable", laid_loop_example_g00064_impl_sineTable)] }
def FnRoundSaid : Prop := fnRoundRow.holds Tryd.pinned (OpenSpec.ofChange fnRoundSpec)

/-- ITS FALSE NEIGHBOUR: 'it returns false'. Refute it at one input. -/
def fnRoundWrong : ChangeSpec := { name := "fnRound", vars := ["loop.example/g00064/impl.sineTable"], fn := fun _ => fun
  | [d1, d2, g1] => { results := [.lit (.bool false)], args := [d1, d2], vars := [g1] }
  | _ => none }
def FnRoundWrongFalsely : Prop := fnRoundRow.holds Tryd.pinned (OpenSpec.ofChange fnRoundWrong)

/-- 'laws.FnExactSinOf': WHATEVER THE INPUT: true; the input reads as it did. -/
def fnExactSinOfSpec : ChangeSpec := { name := "fnExactSinOf", vars := ["loop.example/g00064/impl.sineTable"], fn := fun _ => fun
  | [d, g1] => { results := [.lit (.bool true)], args := [d], vars := [g1] }
  | _ => none }
def fnExactSinOfRow : OpenClaim := { program := "ytocjgpmplmillaadoor", sum := "4dffcb2d038dceaa040c63ec70a264ef274c9f497a1339847ff64bb890cd3854", func := "loop.example/g00064/laws.FnExactSinOf", spec := "fnExactSinOf", recurses := true, named := ["loop.example/g00064/impl.sineTable"], apart := false, laid := [("loop.example/g00064/impl.sineTable", laid_loop_example_g00064_impl_sineTable)] }
def FnExactSinOfSaid : Prop := fnExactSinOfRow.holds Tryd.pinned (OpenSpec.ofChange fnExactSinOfSpec)

/-- ITS FALSE NEIGHBOUR: 'it returns false'. Refute it at one input. -/
def fnExactSinOfWrong : ChangeSpec := { name := "fnExactSinOf", vars := ["loop.example/g00064/impl.sineTable"], fn := fun _ => fun
  | [d, g1] => { results := [.lit (.bool false)], args := [d], vars := [g1] }
  | _ => none }
def FnExactSinOfWrongFalsely : Prop := fnExactSinOfRow.holds Tryd.pinned (OpenSpec.ofChange fnExactSinOfWrong)

/-- 'laws.FnExactCosOf': WHATEVER THE INPUT: true; the input reads as it did. -/
def fnExactCosOfSpec : ChangeSpec := { name := "fnExactCosOf", vars := ["loop.example/g00064/impl.sineTable"], fn := fun _ => fun
  | [d, g1] => { results := [.lit (.bool true)], args := [d], vars := [g1] }
  | _ => none }
def fnExactCosOfRow : OpenClaim := { program := "ytocjgpmplmillaadoor", sum := "4dffcb2d038dceaa040c63ec70a264ef274c9f497a1339847ff64bb890cd3854", func := "loop.example/g00064/laws.FnExactCosOf", spec := "fnExactCosOf", recurses := true, named := ["loop.example/g00064/impl.sineTable"], apart := false, laid := [("loop.example/g00064/impl.sineTable", laid_loop_example_g00064_impl_sineTable)] }
def FnExactCosOfSaid : Prop := fnExactCosOfRow.holds Tryd.pinned (OpenSpec.ofChange fnExactCosOfSpec)

/-- ITS FALSE NEIGHBOUR: 'it returns false'. Refute it at one input. -/
def fnExactCosOfWrong : ChangeSpec := { name := "fnExactCosOf", vars := ["loop.example/g00064/impl.sineTable"], fn := fun _ => fun
  | [d, g1] => { results := [.lit (.bool false)], args := [d], vars := [g1] }
  | _ => none }
def FnExactCosOfWrongFalsely : Prop := fnExactCosOfRow.holds Tryd.pinned (OpenSpec.ofChange fnExactCosOfWrong)

/-- 'laws.FnExactAngleOf': WHATEVER THE INPUT: true; the input reads as it did. -/
def fnExactAngleOfSpec : ChangeSpec := { name := "fnExactAngleOf", vars := ["loop.example/g00064/impl.sineTable"], fn := fun _ => fun
  | [d1, d2, g1] => { results := [.lit (.bool true)], args := [d1, d2], vars := [g1] }
  | _ => none }
def fnExactAngleOfRow : OpenClaim := { program := "ytocjgpmplmillaadoor", sum := "4dffcb2d038dceaa040c63ec70a264ef274c9f497a1339847ff64bb890cd3854", func := "loop.example/g00064/laws.FnExactAngleOf", spec := "fnExactAngleOf", recurses := true, named := ["loop.example/g00064/impl.sineTable"], apart := false, laid := [("loop.example/g00064/impl.sineTable", laid_loop_example_g00064_impl_sineTable)] }
def FnExactAngleOfSaid : Prop := fnExactAngleOfRow.holds Tryd.pinned (OpenSpec.ofChange fnExactAngleOfSpec)

/-- ITS FALSE NEIGHBOUR: 'it returns false'. Refute it at one input. -/
def fnExactAngleOfWrong : ChangeSpec := { name := "fnExactAngleOf", vars := ["loop.example/g00064/impl.sineTable"], fn := fun _ => fun
  | [d1, d2, g1] => { results := [.lit (.bool false)], args := [d1, d2], vars := [g1] }
  | _ => none }
def FnExactAngleOfWrongFalsely : Prop := fnExactAngleOfRow.holds Tryd.pinned (OpenSpec.ofChange fnExactAngleOfWrong)

/- THE SECOND FORM. 'bulk': how many values and letters a reading holds, each counted each time it is reached (what is shared counts as often as it is met; a slice's spare places count too). A statement '..UptoSaid' is the law's where the arguments, and the package variables that the reading takes, are together of bulk at most 1048576: NARROWER than '..Said'. Prove '..Said' where nothing that the law and all that it calls make is longer than what came in: it says more and counts as full. Else prove '..UptoSaid'. A law counts once. -/
mutual
def uptoBulk {H : Type} : DataW H → Nat
  | .lit (.string bytes) => bytes.length + 1
  | .lit _ => 1
  | .nil => 1
  | .ptr d => uptoBulk d + 1
  | .slice elems spare => uptoBulkAll elems + uptoBulkAll spare + 1
  | .agg parts => uptoBulkAll parts + 1
  | .iface _ d => uptoBulk d + 1
  | .map entries => uptoBulkEntries entries + 1
  | .held _ => 1
def uptoBulkAll {H : Type} : List (DataW H) → Nat
  | [] => 0
  | d :: r => uptoBulk d + uptoBulkAll r
def uptoBulkEntries {H : Type} : List (Lit × DataW H) → Nat
  | [] => 0
  | x :: r => uptoBulkEntry x + uptoBulkEntries r
def uptoBulkEntry {H : Type} : Lit × DataW H → Nat
  | (.string bytes, d) => bytes.length + uptoBulk d + 1
  | (_, d) => uptoBulk d + 1
 end
def uptoSmall : (H : Type) → List (DataW H) → Bool := fun _ ds => decide (uptoBulkAll ds ≤ 1048576)
def OpenSpec.upto (s : _root_.Go.ChangeSpec) : _root_.Go.OpenSpec := { _root_.Go.OpenSpec.ofChange s with cond := some uptoSmall }

/-- 'laws.FnRound', WHERE WHAT IT READS IS OF BULK AT MOST 1048576: true; the input reads as it did. -/
def fnRoundUptoRow : OpenClaim := { program := "ytocjgpmplmillaadoor", sum := "4dffcb2d038dceaa040c63ec70a264ef274c9f497a1339847ff64bb890cd3854", func := "loop.example/g00064/laws.FnRound", spec := "fnRound", recurses := true, named := ["loop.example/g00064/impl.sineTable"], apart := false, laid := [("loop.example/g00064/impl.sineTable", laid_loop_example_g00064_impl_sineTable)], narrowed := true }
def FnRoundUptoSaid : Prop := fnRoundUptoRow.holds Tryd.pinned (OpenSpec.upto fnRoundSpec)

/-- 'laws.FnExactSinOf', WHERE WHAT IT READS IS OF BULK AT MOST 1048576: true; the input reads as it did. -/
def fnExactSinOfUptoRow : OpenClaim := { program := "ytocjgpmplmillaadoor", sum := "4dffcb2d038dceaa040c63ec70a264ef274c9f497a1339847ff64bb890cd3854", func := "loop.example/g00064/laws.FnExactSinOf", spec := "fnExactSinOf", recurses := true, named := ["loop.example/g00064/impl.sineTable"], apart := false, laid := [("loop.example/g00064/impl.sineTable", laid_loop_example_g00064_impl_sineTable)], narrowed := true }
def FnExactSinOfUptoSaid : Prop := fnExactSinOfUptoRow.holds Tryd.pinned (OpenSpec.upto fnExactSinOfSpec)

/-- 'laws.FnExactCosOf', WHERE WHAT IT READS IS OF BULK AT MOST 1048576: true; the input reads as it did. -/
def fnExactCosOfUptoRow : OpenClaim := { program := "ytocjgpmplmillaadoor", sum := "4dffcb2d038dceaa040c63ec70a264ef274c9f497a1339847ff64bb890cd3854", func := "loop.example/g00064/laws.FnExactCosOf", spec := "fnExactCosOf", recurses := true, named := ["loop.example/g00064/impl.sineTable"], apart := false, laid := [("loop.example/g00064/impl.sineTable", laid_loop_example_g00064_impl_sineTable)], narrowed := true }
def FnExactCosOfUptoSaid : Prop := fnExactCosOfUptoRow.holds Tryd.pinned (OpenSpec.upto fnExactCosOfSpec)

/-- 'laws.FnExactAngleOf', WHERE WHAT IT READS IS OF BULK AT MOST 1048576: true; the input reads as it did. -/
def fnExactAngleOfUptoRow : OpenClaim := { program := "ytocjgpmplmillaadoor", sum := "4dffcb2d038dceaa040c63ec70a264ef274c9f497a1339847ff64bb890cd3854", func := "loop.example/g00064/laws.FnExactAngleOf", spec := "fnExactAngleOf", recurses := true, named := ["loop.example/g00064/impl.sineTable"], apart := false, laid := [("loop.example/g00064/impl.sineTable", laid_loop_example_g00064_impl_sineTable)], narrowed := true }
def FnExactAngleOfUptoSaid : Prop := fnExactAngleOfUptoRow.holds Tryd.pinned (OpenSpec.upto fnExactAngleOfSpec)

end Rows
end Go.Proofs.YtocjgpmplmillaaDoor
