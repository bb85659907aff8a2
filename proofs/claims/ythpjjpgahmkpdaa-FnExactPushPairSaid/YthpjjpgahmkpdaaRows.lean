/-
  No cell of these rows narrows 'for every input' (looked for: loops, veiled, ifaces, maps, wideKeys, modest, calm, conditions, laid).
  DERIVED. THE GIVEN ROWS OF THIS SEAT. 9 by the template 'for every input the law returns true; each argument reads behind the call as it read before'; 0 by the template 'total and deterministic' (their statements: YthpjjpgahmkpdaaTotals.lean).
  GIVEN WITH THE SEED: the statements are not yours to turn. If you find one false, say at which input.
  Laid BY PROGRAM, IN A SANDBOX (cutbox-rows.mjs): the forced cells as the released guide's own fill.sh prints them over the translation 970108058811ea1a… (all of the seat's roots in one cut). By AI agents, Wed Nov 11 2026. No macro, syntax, notation, axiom, sorry.
-/
import Derived.Test.YthpjjpgahmkpdaaChecked
import GoSem.Claim
import GoSem.ClaimJoined
import GoSem.ClaimMapViews
import Derived.JoinedTies
import Derived.KernelRfl
namespace Go.Proofs.Ythpjjpgahmkpdaa
/- THE CELL 'sum', in the pinned program and in every row, IS THE sha256 OF THE DUMP (.gsa) THAT YthpjjpgahmkpdaaProg.lean LOADS. Nothing in Lean hashes anything: it is a label: what it is worth is what the hold of that sum in a sandbox is worth. -/
noncomputable def Try.pinned : Pinned := { name := "ythpjjpgahmkpdaa", sum := "970108058811ea1ad27f6a5aa11272a2d9d7d8919837adbc5c3fcc34093d9b8b", checked := Try.checked }
namespace Rows
def none {H : Type} : Left H := { results := [], args := [] }

/-- 'laws.FnPushed': WHATEVER THE INPUT: true; the input reads as it did. -/
def fnPushedSpec : ChangeSpec := { name := "fnPushed", fn := fun _ => fun
  | [d1, d2] => { results := [.lit (.bool true)], args := [d1, d2] }
  | _ => none }
def fnPushedRow : OpenClaim := { program := "ythpjjpgahmkpdaa", sum := "970108058811ea1ad27f6a5aa11272a2d9d7d8919837adbc5c3fcc34093d9b8b", func := "loop.example/g00064/laws.FnPushed", spec := "fnPushed", inPlace := ["(*sync.WaitGroup).Add", "internal/race.ReleaseMerge", "internal/race.Disable", "internal/race.Enable", "internal/synctest.IsInBubble", "internal/synctest.Associate[sync.WaitGroup]", "sync.fatal", "sync/atomic.OrUint64", "sync/atomic.AddUint64", "internal/race.Read", "sync/atomic.LoadUint64", "sync/atomic.StoreUint64", "internal/synctest.Disassociate[sync.WaitGroup]", "sync.runtime_Semrelease", "(*sync.WaitGroup).Done", "(*sync.WaitGroup).Wait", "internal/race.Acquire", "internal/synctest.IsAssociated[sync.WaitGroup]", "sync/atomic.CompareAndSwapUint64", "internal/race.Write", "sync.runtime_SemacquireWaitGroup"], unfollowed := true, recurses := true, leaving := true, apart := false }
def FnPushedSaid : Prop := fnPushedRow.holds Try.pinned (OpenSpec.ofChange fnPushedSpec)

/-- ITS FALSE NEIGHBOUR: 'it returns false'. Refute it at one input. -/
def fnPushedWrong : ChangeSpec := { name := "fnPushed", fn := fun _ => fun
  | [d1, d2] => { results := [.lit (.bool false)], args := [d1, d2] }
  | _ => none }
def FnPushedWrongFalsely : Prop := fnPushedRow.holds Try.pinned (OpenSpec.ofChange fnPushedWrong)

/-- 'laws.FnExactGoodLine': WHATEVER THE INPUT: true; the input reads as it did. -/
def fnExactGoodLineSpec : ChangeSpec := { name := "fnExactGoodLine", fn := fun _ => fun
  | [d] => { results := [.lit (.bool true)], args := [d] }
  | _ => none }
def fnExactGoodLineRow : OpenClaim := { program := "ythpjjpgahmkpdaa", sum := "970108058811ea1ad27f6a5aa11272a2d9d7d8919837adbc5c3fcc34093d9b8b", func := "loop.example/g00064/laws.FnExactGoodLine", spec := "fnExactGoodLine", apart := false }
def FnExactGoodLineSaid : Prop := fnExactGoodLineRow.holds Try.pinned (OpenSpec.ofChange fnExactGoodLineSpec)

/-- ITS FALSE NEIGHBOUR: 'it returns false'. Refute it at one input. -/
def fnExactGoodLineWrong : ChangeSpec := { name := "fnExactGoodLine", fn := fun _ => fun
  | [d] => { results := [.lit (.bool false)], args := [d] }
  | _ => none }
def FnExactGoodLineWrongFalsely : Prop := fnExactGoodLineRow.holds Try.pinned (OpenSpec.ofChange fnExactGoodLineWrong)

/-- 'laws.FnExactBookOf': WHATEVER THE INPUT: true; the input reads as it did. -/
def fnExactBookOfSpec : ChangeSpec := { name := "fnExactBookOf", fn := fun _ => fun
  | [d] => { results := [.lit (.bool true)], args := [d] }
  | _ => none }
def fnExactBookOfRow : OpenClaim := { program := "ythpjjpgahmkpdaa", sum := "970108058811ea1ad27f6a5aa11272a2d9d7d8919837adbc5c3fcc34093d9b8b", func := "loop.example/g00064/laws.FnExactBookOf", spec := "fnExactBookOf", apart := false }
def FnExactBookOfSaid : Prop := fnExactBookOfRow.holds Try.pinned (OpenSpec.ofChange fnExactBookOfSpec)

/-- ITS FALSE NEIGHBOUR: 'it returns false'. Refute it at one input. -/
def fnExactBookOfWrong : ChangeSpec := { name := "fnExactBookOf", fn := fun _ => fun
  | [d] => { results := [.lit (.bool false)], args := [d] }
  | _ => none }
def FnExactBookOfWrongFalsely : Prop := fnExactBookOfRow.holds Try.pinned (OpenSpec.ofChange fnExactBookOfWrong)

/-- 'laws.FnExactPushPair': WHATEVER THE INPUT: true; the input reads as it did. -/
def fnExactPushPairSpec : ChangeSpec := { name := "fnExactPushPair", fn := fun _ => fun
  | [d1, d2, d3] => { results := [.lit (.bool true)], args := [d1, d2, d3] }
  | _ => none }
def fnExactPushPairRow : OpenClaim := { program := "ythpjjpgahmkpdaa", sum := "970108058811ea1ad27f6a5aa11272a2d9d7d8919837adbc5c3fcc34093d9b8b", func := "loop.example/g00064/laws.FnExactPushPair", spec := "fnExactPushPair", apart := false }
def FnExactPushPairSaid : Prop := fnExactPushPairRow.holds Try.pinned (OpenSpec.ofChange fnExactPushPairSpec)

/-- ITS FALSE NEIGHBOUR: 'it returns false'. Refute it at one input. -/
def fnExactPushPairWrong : ChangeSpec := { name := "fnExactPushPair", fn := fun _ => fun
  | [d1, d2, d3] => { results := [.lit (.bool false)], args := [d1, d2, d3] }
  | _ => none }
def FnExactPushPairWrongFalsely : Prop := fnExactPushPairRow.holds Try.pinned (OpenSpec.ofChange fnExactPushPairWrong)

/-- 'laws.FnExactPushLine': WHATEVER THE INPUT: true; the input reads as it did. -/
def fnExactPushLineSpec : ChangeSpec := { name := "fnExactPushLine", fn := fun _ => fun
  | [d1, d2, d3] => { results := [.lit (.bool true)], args := [d1, d2, d3] }
  | _ => none }
def fnExactPushLineRow : OpenClaim := { program := "ythpjjpgahmkpdaa", sum := "970108058811ea1ad27f6a5aa11272a2d9d7d8919837adbc5c3fcc34093d9b8b", func := "loop.example/g00064/laws.FnExactPushLine", spec := "fnExactPushLine", apart := false }
def FnExactPushLineSaid : Prop := fnExactPushLineRow.holds Try.pinned (OpenSpec.ofChange fnExactPushLineSpec)

/-- ITS FALSE NEIGHBOUR: 'it returns false'. Refute it at one input. -/
def fnExactPushLineWrong : ChangeSpec := { name := "fnExactPushLine", fn := fun _ => fun
  | [d1, d2, d3] => { results := [.lit (.bool false)], args := [d1, d2, d3] }
  | _ => none }
def FnExactPushLineWrongFalsely : Prop := fnExactPushLineRow.holds Try.pinned (OpenSpec.ofChange fnExactPushLineWrong)

/-- 'laws.FnExactMoveLine': WHATEVER THE INPUT: true; the input reads as it did. -/
def fnExactMoveLineSpec : ChangeSpec := { name := "fnExactMoveLine", fn := fun _ => fun
  | [d1, d2] => { results := [.lit (.bool true)], args := [d1, d2] }
  | _ => none }
def fnExactMoveLineRow : OpenClaim := { program := "ythpjjpgahmkpdaa", sum := "970108058811ea1ad27f6a5aa11272a2d9d7d8919837adbc5c3fcc34093d9b8b", func := "loop.example/g00064/laws.FnExactMoveLine", spec := "fnExactMoveLine", apart := false }
def FnExactMoveLineSaid : Prop := fnExactMoveLineRow.holds Try.pinned (OpenSpec.ofChange fnExactMoveLineSpec)

/-- ITS FALSE NEIGHBOUR: 'it returns false'. Refute it at one input. -/
def fnExactMoveLineWrong : ChangeSpec := { name := "fnExactMoveLine", fn := fun _ => fun
  | [d1, d2] => { results := [.lit (.bool false)], args := [d1, d2] }
  | _ => none }
def FnExactMoveLineWrongFalsely : Prop := fnExactMoveLineRow.holds Try.pinned (OpenSpec.ofChange fnExactMoveLineWrong)

/-- 'laws.FnExactStepLine': WHATEVER THE INPUT: true; the input reads as it did. -/
def fnExactStepLineSpec : ChangeSpec := { name := "fnExactStepLine", fn := fun _ => fun
  | [d1, d2, d3, d4] => { results := [.lit (.bool true)], args := [d1, d2, d3, d4] }
  | _ => none }
def fnExactStepLineRow : OpenClaim := { program := "ythpjjpgahmkpdaa", sum := "970108058811ea1ad27f6a5aa11272a2d9d7d8919837adbc5c3fcc34093d9b8b", func := "loop.example/g00064/laws.FnExactStepLine", spec := "fnExactStepLine", apart := false }
def FnExactStepLineSaid : Prop := fnExactStepLineRow.holds Try.pinned (OpenSpec.ofChange fnExactStepLineSpec)

/-- ITS FALSE NEIGHBOUR: 'it returns false'. Refute it at one input. -/
def fnExactStepLineWrong : ChangeSpec := { name := "fnExactStepLine", fn := fun _ => fun
  | [d1, d2, d3, d4] => { results := [.lit (.bool false)], args := [d1, d2, d3, d4] }
  | _ => none }
def FnExactStepLineWrongFalsely : Prop := fnExactStepLineRow.holds Try.pinned (OpenSpec.ofChange fnExactStepLineWrong)

/-- 'laws.FnExactIslandsOf': WHATEVER THE INPUT: true; the input reads as it did. -/
def fnExactIslandsOfSpec : ChangeSpec := { name := "fnExactIslandsOf", fn := fun _ => fun
  | [d1, d2] => { results := [.lit (.bool true)], args := [d1, d2] }
  | _ => none }
def fnExactIslandsOfRow : OpenClaim := { program := "ythpjjpgahmkpdaa", sum := "970108058811ea1ad27f6a5aa11272a2d9d7d8919837adbc5c3fcc34093d9b8b", func := "loop.example/g00064/laws.FnExactIslandsOf", spec := "fnExactIslandsOf", apart := false }
def FnExactIslandsOfSaid : Prop := fnExactIslandsOfRow.holds Try.pinned (OpenSpec.ofChange fnExactIslandsOfSpec)

/-- ITS FALSE NEIGHBOUR: 'it returns false'. Refute it at one input. -/
def fnExactIslandsOfWrong : ChangeSpec := { name := "fnExactIslandsOf", fn := fun _ => fun
  | [d1, d2] => { results := [.lit (.bool false)], args := [d1, d2] }
  | _ => none }
def FnExactIslandsOfWrongFalsely : Prop := fnExactIslandsOfRow.holds Try.pinned (OpenSpec.ofChange fnExactIslandsOfWrong)

/-- 'laws.FnExactStepIslands': WHATEVER THE INPUT: true; the input reads as it did. -/
def fnExactStepIslandsSpec : ChangeSpec := { name := "fnExactStepIslands", fn := fun _ => fun
  | [d1, d2, d3, d4] => { results := [.lit (.bool true)], args := [d1, d2, d3, d4] }
  | _ => none }
def fnExactStepIslandsRow : OpenClaim := { program := "ythpjjpgahmkpdaa", sum := "970108058811ea1ad27f6a5aa11272a2d9d7d8919837adbc5c3fcc34093d9b8b", func := "loop.example/g00064/laws.FnExactStepIslands", spec := "fnExactStepIslands", inPlace := ["(*sync.WaitGroup).Add", "internal/race.ReleaseMerge", "internal/race.Disable", "internal/race.Enable", "internal/synctest.IsInBubble", "internal/synctest.Associate[sync.WaitGroup]", "sync.fatal", "sync/atomic.OrUint64", "sync/atomic.AddUint64", "internal/race.Read", "sync/atomic.LoadUint64", "sync/atomic.StoreUint64", "internal/synctest.Disassociate[sync.WaitGroup]", "sync.runtime_Semrelease", "(*sync.WaitGroup).Done", "(*sync.WaitGroup).Wait", "internal/race.Acquire", "internal/synctest.IsAssociated[sync.WaitGroup]", "sync/atomic.CompareAndSwapUint64", "internal/race.Write", "sync.runtime_SemacquireWaitGroup"], unfollowed := true, recurses := true, leaving := true, apart := false }
def FnExactStepIslandsSaid : Prop := fnExactStepIslandsRow.holds Try.pinned (OpenSpec.ofChange fnExactStepIslandsSpec)

/-- ITS FALSE NEIGHBOUR: 'it returns false'. Refute it at one input. -/
def fnExactStepIslandsWrong : ChangeSpec := { name := "fnExactStepIslands", fn := fun _ => fun
  | [d1, d2, d3, d4] => { results := [.lit (.bool false)], args := [d1, d2, d3, d4] }
  | _ => none }
def FnExactStepIslandsWrongFalsely : Prop := fnExactStepIslandsRow.holds Try.pinned (OpenSpec.ofChange fnExactStepIslandsWrong)

/- THE SECOND FORM. 'bulk': how many values and letters a reading holds, each counted each time it is reached (what is shared counts as often as it is met; a slice's spare places count too). A statement '..UptoSaid' is the law's where the arguments, and the package variables that the reading takes, are together of bulk at most 1048576: NARROWER than '..Said'. Prove '..Said' where nothing that the law and all that it calls make is longer than what came in: it says more and counts as full. Else prove '..UptoSaid'. A law counts once. -/
mutual
def uptoBulk {H : Type} : DataW H → Nat
  | .lit (.string bytes) => bytes.length + 1
  | .lit _ => 1
  | .nil => 1
  | .ptr d => uptoBulk d + 1
  | .slice elems spare => uptoBulkAll elems + uptoBulkAll spare + 1
  | .agg parts => uptoBulkAll parts + 1
  | .iface _ d => uptoBulk d + 1
  | .map entries => uptoBulkEntries entries + 1
  | .held _ => 1
def uptoBulkAll {H : Type} : List (DataW H) → Nat
  | [] => 0
  | d :: r => uptoBulk d + uptoBulkAll r
def uptoBulkEntries {H : Type} : List (Lit × DataW H) → Nat
  | [] => 0
  | x :: r => uptoBulkEntry x + uptoBulkEntries r
def uptoBulkEntry {H : Type} : Lit × DataW H → Nat
  | (.string bytes, d) => bytes.length + uptoBulk d + 1
  | (_, d) => uptoBulk d + 1
 end
def uptoSmall : (H : Type) → List (DataW H) → Bool := fun _ ds => decide (uptoBulkAll ds ≤ 1048576)
def OpenSpec.upto (s : _root_.Go.ChangeSpec) : _root_.Go.OpenSpec := { _root_.Go.OpenSpec.ofChange s with cond := some uptoSmall }

/-- 'laws.FnPushed', WHERE WHAT IT READS IS OF BULK AT MOST 1048576: true; the input reads as it did. -/
def fnPushedUptoRow : OpenClaim := { program := "ythpjjpgahmkpdaa", sum := "970108058811ea1ad27f6a5aa11272a2d9d7d8919837adbc5c3fcc34093d9b8b", func := "loop.example/g00064/laws.FnPushed", spec := "fnPushed", inPlace := ["(*sync.WaitGroup).Add", "internal/race.ReleaseMerge", "internal/race.Disable", "internal/race.Enable", "internal/synctest.IsInBubble", "internal/synctest.Associate[sync.WaitGroup]", "sync.fatal", "sync/atomic.OrUint64", "sync/atomic.AddUint64", "internal/race.Read", "sync/atomic.LoadUint64", "sync/atomic.StoreUint64", "internal/synctest.Disassociate[sync.WaitGroup]", "sync.runtime_Semrelease", "(*sync.WaitGroup).Done", "(*sync.WaitGroup).Wait", "internal/race.Acquire", "internal/synctest.IsAssociated[sync.WaitGroup]", "sync/atomic.CompareAndSwapUint64", "internal/race.Write", "sync.runtime_SemacquireWaitGroup"], unfollowed := true, recurses := true, leaving := true, apart := false, narrowed := true }
def FnPushedUptoSaid : Prop := fnPushedUptoRow.holds Try.pinned (OpenSpec.upto fnPushedSpec)

/-- 'laws.FnExactGoodLine', WHERE WHAT IT READS IS OF BULK AT MOST 1048576: true; the input reads as it did. -/
def fnExactGoodLineUptoRow : OpenClaim := { program := "ythpjjpgahmkpdaa", sum := "970108058811ea1ad27f6a5aa11272a2d9d7d8919837adbc5c3fcc34093d9b8b", func := "loop.example/g00064/laws.FnExactGoodLine", spec := "fnExactGoodLine", apart := false, narrowed := true }
def FnExactGoodLineUptoSaid : Prop := fnExactGoodLineUptoRow.holds Try.pinned (OpenSpec.upto fnExactGoodLineSpec)

/-- 'laws.FnExactBookOf', WHERE WHAT IT READS IS OF BULK AT MOST 1048576: true; the input reads as it did. -/
def fnExactBookOfUptoRow : OpenClaim := { program := "ythpjjpgahmkpdaa", sum := "970108058811ea1ad27f6a5aa11272a2d9d7d8919837adbc5c3fcc34093d9b8b", func := "loop.example/g00064/laws.FnExactBookOf", spec := "fnExactBookOf", apart := false, narrowed := true }
def FnExactBookOfUptoSaid : Prop := fnExactBookOfUptoRow.holds Try.pinned (OpenSpec.upto fnExactBookOfSpec)

/-- 'laws.FnExactPushPair', WHERE WHAT IT READS IS OF BULK AT MOST 1048576: true; the input reads as it did. -/
def fnExactPushPairUptoRow : OpenClaim := { program := "ythpjjpgahmkpdaa", sum := "970108058811ea1ad27f6a5aa11272a2d9d7d8919837adbc5c3fcc34093d9b8b", func := "loop.example/g00064/laws.FnExactPushPair", spec := "fnExactPushPair", apart := false, narrowed := true }
def FnExactPushPairUptoSaid : Prop := fnExactPushPairUptoRow.holds Try.pinned (OpenSpec.upto fnExactPushPairSpec)

/-- 'laws.FnExactPushLine', WHERE WHAT IT READS IS OF BULK AT MOST 1048576: true; the input reads as it did. -/
def fnExactPushLineUptoRow : OpenClaim := { program := "ythpjjpgahmkpdaa", sum := "970108058811ea1ad27f6a5aa11272a2d9d7d8919837adbc5c3fcc34093d9b8b", func := "loop.example/g00064/laws.FnExactPushLine", spec := "fnExactPushLine", apart := false, narrowed := true }
def FnExactPushLineUptoSaid : Prop := fnExactPushLineUptoRow.holds Try.pinned (OpenSpec.upto fnExactPushLineSpec)

/-- 'laws.FnExactMoveLine', WHERE WHAT IT READS IS OF BULK AT MOST 1048576: true; the input reads as it did. -/
def fnExactMoveLineUptoRow : OpenClaim := { program := "ythpjjpgahmkpdaa", sum := "970108058811ea1ad27f6a5aa11272a2d9d7d8919837adbc5c3fcc34093d9b8b", func := "loop.example/g00064/laws.FnExactMoveLine", spec := "fnExactMoveLine", apart := false, narrowed := true }
def FnExactMoveLineUptoSaid : Prop := fnExactMoveLineUptoRow.holds Try.pinned (OpenSpec.upto fnExactMoveLineSpec)

/-- 'laws.FnExactStepLine', WHERE WHAT IT READS IS OF BULK AT MOST 1048576: true; the input reads as it did. -/
def fnExactStepLineUptoRow : OpenClaim := { program := "ythpjjpgahmkpdaa", sum := "970108058811ea1ad27f6a5aa11272a2d9d7d8919837adbc5c3fcc34093d9b8b", func := "loop.example/g00064/laws.FnExactStepLine", spec := "fnExactStepLine", apart := false, narrowed := true }
def FnExactStepLineUptoSaid : Prop := fnExactStepLineUptoRow.holds Try.pinned (OpenSpec.upto fnExactStepLineSpec)

/-- 'laws.FnExactIslandsOf', WHERE WHAT IT READS IS OF BULK AT MOST 1048576: true; the input reads as it did. -/
def fnExactIslandsOfUptoRow : OpenClaim := { program := "ythpjjpgahmkpdaa", sum := "970108058811ea1ad27f6a5aa11272a2d9d7d8919837adbc5c3fcc34093d9b8b", func := "loop.example/g00064/laws.FnExactIslandsOf", spec := "fnExactIslandsOf", apart := false, narrowed := true }
def FnExactIslandsOfUptoSaid : Prop := fnExactIslandsOfUptoRow.holds Try.pinned (OpenSpec.upto fnExactIslandsOfSpec)

/-- 'laws.FnExactStepIslands', WHERE WHAT IT READS IS OF BULK AT MOST 1048576: true; the input reads as it did. -/
def fnExactStepIslandsUptoRow : OpenClaim := { program := "ythpjjpgahmkpdaa", sum := "970108058811ea1ad27f6a5aa11272a2d9d7d8919837adbc5c3fcc34093d9b8b", func := "loop.example/g00064/laws.FnExactStepIslands", spec := "fnExactStepIslands", inPlace := ["(*sync.WaitGroup).Add", "internal/race.ReleaseMerge", "internal/race.Disable", "internal/race.Enable", "internal/synctest.IsInBubble", "internal/synctest.Associate[sync.WaitGroup]", "sync.fatal", "sync/atomic.OrUint64", "sync/atomic.AddUint64", "internal/race.Read", "sync/atomic.LoadUint64", "sync/atomic.StoreUint64", "internal/synctest.Disassociate[sync.WaitGroup]", "sync.runtime_Semrelease", "(*sync.WaitGroup).Done", "(*sync.WaitGroup).Wait", "internal/race.Acquire", "internal/synctest.IsAssociated[sync.WaitGroup]", "sync/atomic.CompareAndSwapUint64", "internal/race.Write", "sync.runtime_SemacquireWaitGroup"], unfollowed := true, recurses := true, leaving := true, apart := false, narrowed := true }
def FnExactStepIslandsUptoSaid : Prop := fnExactStepIslandsUptoRow.holds Try.pinned (OpenSpec.upto fnExactStepIslandsSpec)

end Rows
end Go.Proofs.Ythpjjpgahmkpdaa
