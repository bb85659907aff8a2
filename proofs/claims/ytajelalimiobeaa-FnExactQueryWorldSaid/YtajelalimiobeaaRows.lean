/-
  No cell of these rows narrows 'for every input' (looked for: loops, veiled, ifaces, maps, wideKeys, modest, calm, conditions, laid).
  DERIVED. THE GIVEN ROWS OF THIS SEAT. 10 by the template 'for every input the law returns true; each argument reads behind the call as it read before'; 0 by the template 'total and deterministic' (their statements: YtajelalimiobeaaTotals.lean).
  GIVEN WITH THE SEED: the statements are not yours to turn. If you find one false, say at which input.
  Laid BY PROGRAM, IN A SANDBOX (cutbox-rows.mjs): the forced cells as the released guide's own fill.sh prints them over the translation 0745c378e3c5b337… (all of the seat's roots in one cut). By AI agents, Wed Nov 11 2026. No macro, syntax, notation, axiom, sorry.
-/
import Derived.Test.YtajelalimiobeaaChecked
import GoSem.Claim
import GoSem.ClaimJoined
import GoSem.ClaimMapViews
import Derived.JoinedTies
import Derived.KernelRfl
namespace Go.Proofs.Ytajelalimiobeaa
/- THE CELL 'sum', in the pinned program and in every row, IS THE sha256 OF THE DUMP (.gsa) THAT YtajelalimiobeaaProg.lean LOADS. Nothing in Lean hashes anything: it is a label: what it is worth is what the hold of that sum in a sandbox is worth. -/
noncomputable def Try.pinned : Pinned := { name := "ytajelalimiobeaa", sum := "0745c378e3c5b33775690a011fe3ba7d93b7fef7812bd64c90d6a4782c3ac741", checked := Try.checked }
namespace Rows
def none {H : Type} : Left H := { results := [], args := [] }

/-- 'laws.FnQueries': WHATEVER THE INPUT: true; the input reads as it did. -/
def fnQueriesSpec : ChangeSpec := { name := "fnQueries", fn := fun _ => fun
  | [d] => { results := [.lit (.bool true)], args := [d] }
  | _ => none }
def fnQueriesRow : OpenClaim := { program := "ytajelalimiobeaa", sum := "0745c378e3c5b33775690a011fe3ba7d93b7fef7812bd64c90d6a4782c3ac741", func := "loop.example/g00064/laws.FnQueries", spec := "fnQueries", inPlace := ["internal/bytealg.abigen_runtime_cmpstring"], unfollowed := true, recurses := true, plainKeys := false, apart := false }
def FnQueriesSaid : Prop := fnQueriesRow.holds Try.pinned (OpenSpec.ofChange fnQueriesSpec)

/-- ITS FALSE NEIGHBOUR: 'it returns false'. Refute it at one input. -/
def fnQueriesWrong : ChangeSpec := { name := "fnQueries", fn := fun _ => fun
  | [d] => { results := [.lit (.bool false)], args := [d] }
  | _ => none }
def FnQueriesWrongFalsely : Prop := fnQueriesRow.holds Try.pinned (OpenSpec.ofChange fnQueriesWrong)

/-- 'laws.FnExactNewWorld': WHATEVER THE INPUT: true; the input reads as it did. -/
def fnExactNewWorldSpec : ChangeSpec := { name := "fnExactNewWorld", fn := fun _ => fun
  | [] => { results := [.lit (.bool true)], args := [] }
  | _ => none }
def fnExactNewWorldRow : OpenClaim := { program := "ytajelalimiobeaa", sum := "0745c378e3c5b33775690a011fe3ba7d93b7fef7812bd64c90d6a4782c3ac741", func := "loop.example/g00064/laws.FnExactNewWorld", spec := "fnExactNewWorld", plainKeys := false, apart := false }
def FnExactNewWorldSaid : Prop := fnExactNewWorldRow.holds Try.pinned (OpenSpec.ofChange fnExactNewWorldSpec)

/-- ITS FALSE NEIGHBOUR: 'it returns false'. Refute it at one input. -/
def fnExactNewWorldWrong : ChangeSpec := { name := "fnExactNewWorld", fn := fun _ => fun
  | [] => { results := [.lit (.bool false)], args := [] }
  | _ => none }
def FnExactNewWorldWrongFalsely : Prop := fnExactNewWorldRow.holds Try.pinned (OpenSpec.ofChange fnExactNewWorldWrong)

/-- 'laws.FnExactGoodWorld': WHATEVER THE INPUT: true; the input reads as it did. -/
def fnExactGoodWorldSpec : ChangeSpec := { name := "fnExactGoodWorld", fn := fun _ => fun
  | [d] => { results := [.lit (.bool true)], args := [d] }
  | _ => none }
def fnExactGoodWorldRow : OpenClaim := { program := "ytajelalimiobeaa", sum := "0745c378e3c5b33775690a011fe3ba7d93b7fef7812bd64c90d6a4782c3ac741", func := "loop.example/g00064/laws.FnExactGoodWorld", spec := "fnExactGoodWorld", plainKeys := false, apart := false }
def FnExactGoodWorldSaid : Prop := fnExactGoodWorldRow.holds Try.pinned (OpenSpec.ofChange fnExactGoodWorldSpec)

/-- ITS FALSE NEIGHBOUR: 'it returns false'. Refute it at one input. -/
def fnExactGoodWorldWrong : ChangeSpec := { name := "fnExactGoodWorld", fn := fun _ => fun
  | [d] => { results := [.lit (.bool false)], args := [d] }
  | _ => none }
def FnExactGoodWorldWrongFalsely : Prop := fnExactGoodWorldRow.holds Try.pinned (OpenSpec.ofChange fnExactGoodWorldWrong)

/-- 'laws.FnExactSpawn': WHATEVER THE INPUT: true; the input reads as it did. -/
def fnExactSpawnSpec : ChangeSpec := { name := "fnExactSpawn", fn := fun _ => fun
  | [d] => { results := [.lit (.bool true)], args := [d] }
  | _ => none }
def fnExactSpawnRow : OpenClaim := { program := "ytajelalimiobeaa", sum := "0745c378e3c5b33775690a011fe3ba7d93b7fef7812bd64c90d6a4782c3ac741", func := "loop.example/g00064/laws.FnExactSpawn", spec := "fnExactSpawn", plainKeys := false, apart := false }
def FnExactSpawnSaid : Prop := fnExactSpawnRow.holds Try.pinned (OpenSpec.ofChange fnExactSpawnSpec)

/-- ITS FALSE NEIGHBOUR: 'it returns false'. Refute it at one input. -/
def fnExactSpawnWrong : ChangeSpec := { name := "fnExactSpawn", fn := fun _ => fun
  | [d] => { results := [.lit (.bool false)], args := [d] }
  | _ => none }
def FnExactSpawnWrongFalsely : Prop := fnExactSpawnRow.holds Try.pinned (OpenSpec.ofChange fnExactSpawnWrong)

/-- 'laws.FnExactDespawn': WHATEVER THE INPUT: true; the input reads as it did. -/
def fnExactDespawnSpec : ChangeSpec := { name := "fnExactDespawn", fn := fun _ => fun
  | [d1, d2] => { results := [.lit (.bool true)], args := [d1, d2] }
  | _ => none }
def fnExactDespawnRow : OpenClaim := { program := "ytajelalimiobeaa", sum := "0745c378e3c5b33775690a011fe3ba7d93b7fef7812bd64c90d6a4782c3ac741", func := "loop.example/g00064/laws.FnExactDespawn", spec := "fnExactDespawn", unfollowed := true, recurses := true, plainKeys := false, apart := false }
def FnExactDespawnSaid : Prop := fnExactDespawnRow.holds Try.pinned (OpenSpec.ofChange fnExactDespawnSpec)

/-- ITS FALSE NEIGHBOUR: 'it returns false'. Refute it at one input. -/
def fnExactDespawnWrong : ChangeSpec := { name := "fnExactDespawn", fn := fun _ => fun
  | [d1, d2] => { results := [.lit (.bool false)], args := [d1, d2] }
  | _ => none }
def FnExactDespawnWrongFalsely : Prop := fnExactDespawnRow.holds Try.pinned (OpenSpec.ofChange fnExactDespawnWrong)

/-- 'laws.FnExactSetPart': WHATEVER THE INPUT: true; the input reads as it did. -/
def fnExactSetPartSpec : ChangeSpec := { name := "fnExactSetPart", fn := fun _ => fun
  | [d1, d2, d3, d4] => { results := [.lit (.bool true)], args := [d1, d2, d3, d4] }
  | _ => none }
def fnExactSetPartRow : OpenClaim := { program := "ytajelalimiobeaa", sum := "0745c378e3c5b33775690a011fe3ba7d93b7fef7812bd64c90d6a4782c3ac741", func := "loop.example/g00064/laws.FnExactSetPart", spec := "fnExactSetPart", inPlace := ["internal/bytealg.abigen_runtime_cmpstring", "slices.overlaps[loop.example/g00064/impl.Part]"], unfollowed := true, recurses := true, plainKeys := false, apart := false }
def FnExactSetPartSaid : Prop := fnExactSetPartRow.holds Try.pinned (OpenSpec.ofChange fnExactSetPartSpec)

/-- ITS FALSE NEIGHBOUR: 'it returns false'. Refute it at one input. -/
def fnExactSetPartWrong : ChangeSpec := { name := "fnExactSetPart", fn := fun _ => fun
  | [d1, d2, d3, d4] => { results := [.lit (.bool false)], args := [d1, d2, d3, d4] }
  | _ => none }
def FnExactSetPartWrongFalsely : Prop := fnExactSetPartRow.holds Try.pinned (OpenSpec.ofChange fnExactSetPartWrong)

/-- 'laws.FnExactDropPart': WHATEVER THE INPUT: true; the input reads as it did. -/
def fnExactDropPartSpec : ChangeSpec := { name := "fnExactDropPart", fn := fun _ => fun
  | [d1, d2, d3] => { results := [.lit (.bool true)], args := [d1, d2, d3] }
  | _ => none }
def fnExactDropPartRow : OpenClaim := { program := "ytajelalimiobeaa", sum := "0745c378e3c5b33775690a011fe3ba7d93b7fef7812bd64c90d6a4782c3ac741", func := "loop.example/g00064/laws.FnExactDropPart", spec := "fnExactDropPart", inPlace := ["internal/bytealg.abigen_runtime_cmpstring"], unfollowed := true, recurses := true, plainKeys := false, apart := false }
def FnExactDropPartSaid : Prop := fnExactDropPartRow.holds Try.pinned (OpenSpec.ofChange fnExactDropPartSpec)

/-- ITS FALSE NEIGHBOUR: 'it returns false'. Refute it at one input. -/
def fnExactDropPartWrong : ChangeSpec := { name := "fnExactDropPart", fn := fun _ => fun
  | [d1, d2, d3] => { results := [.lit (.bool false)], args := [d1, d2, d3] }
  | _ => none }
def FnExactDropPartWrongFalsely : Prop := fnExactDropPartRow.holds Try.pinned (OpenSpec.ofChange fnExactDropPartWrong)

/-- 'laws.FnExactNextTick': WHATEVER THE INPUT: true; the input reads as it did. -/
def fnExactNextTickSpec : ChangeSpec := { name := "fnExactNextTick", fn := fun _ => fun
  | [d] => { results := [.lit (.bool true)], args := [d] }
  | _ => none }
def fnExactNextTickRow : OpenClaim := { program := "ytajelalimiobeaa", sum := "0745c378e3c5b33775690a011fe3ba7d93b7fef7812bd64c90d6a4782c3ac741", func := "loop.example/g00064/laws.FnExactNextTick", spec := "fnExactNextTick", plainKeys := false, apart := false }
def FnExactNextTickSaid : Prop := fnExactNextTickRow.holds Try.pinned (OpenSpec.ofChange fnExactNextTickSpec)

/-- ITS FALSE NEIGHBOUR: 'it returns false'. Refute it at one input. -/
def fnExactNextTickWrong : ChangeSpec := { name := "fnExactNextTick", fn := fun _ => fun
  | [d] => { results := [.lit (.bool false)], args := [d] }
  | _ => none }
def FnExactNextTickWrongFalsely : Prop := fnExactNextTickRow.holds Try.pinned (OpenSpec.ofChange fnExactNextTickWrong)

/-- 'laws.FnExactQueryWorld': WHATEVER THE INPUT: true; the input reads as it did. -/
def fnExactQueryWorldSpec : ChangeSpec := { name := "fnExactQueryWorld", fn := fun _ => fun
  | [d1, d2] => { results := [.lit (.bool true)], args := [d1, d2] }
  | _ => none }
def fnExactQueryWorldRow : OpenClaim := { program := "ytajelalimiobeaa", sum := "0745c378e3c5b33775690a011fe3ba7d93b7fef7812bd64c90d6a4782c3ac741", func := "loop.example/g00064/laws.FnExactQueryWorld", spec := "fnExactQueryWorld", inPlace := ["internal/bytealg.abigen_runtime_cmpstring"], unfollowed := true, recurses := true, plainKeys := false, apart := false }
def FnExactQueryWorldSaid : Prop := fnExactQueryWorldRow.holds Try.pinned (OpenSpec.ofChange fnExactQueryWorldSpec)

/-- ITS FALSE NEIGHBOUR: 'it returns false'. Refute it at one input. -/
def fnExactQueryWorldWrong : ChangeSpec := { name := "fnExactQueryWorld", fn := fun _ => fun
  | [d1, d2] => { results := [.lit (.bool false)], args := [d1, d2] }
  | _ => none }
def FnExactQueryWorldWrongFalsely : Prop := fnExactQueryWorldRow.holds Try.pinned (OpenSpec.ofChange fnExactQueryWorldWrong)

/-- 'laws.FnExactKindsOf': WHATEVER THE INPUT: true; the input reads as it did. -/
def fnExactKindsOfSpec : ChangeSpec := { name := "fnExactKindsOf", fn := fun _ => fun
  | [d] => { results := [.lit (.bool true)], args := [d] }
  | _ => none }
def fnExactKindsOfRow : OpenClaim := { program := "ytajelalimiobeaa", sum := "0745c378e3c5b33775690a011fe3ba7d93b7fef7812bd64c90d6a4782c3ac741", func := "loop.example/g00064/laws.FnExactKindsOf", spec := "fnExactKindsOf", unfollowed := true, recurses := true, plainKeys := false, apart := false }
def FnExactKindsOfSaid : Prop := fnExactKindsOfRow.holds Try.pinned (OpenSpec.ofChange fnExactKindsOfSpec)

/-- ITS FALSE NEIGHBOUR: 'it returns false'. Refute it at one input. -/
def fnExactKindsOfWrong : ChangeSpec := { name := "fnExactKindsOf", fn := fun _ => fun
  | [d] => { results := [.lit (.bool false)], args := [d] }
  | _ => none }
def FnExactKindsOfWrongFalsely : Prop := fnExactKindsOfRow.holds Try.pinned (OpenSpec.ofChange fnExactKindsOfWrong)

/- THE SECOND FORM. 'bulk': how many values and letters a reading holds, each counted each time it is reached (what is shared counts as often as it is met; a slice's spare places count too). A statement '..UptoSaid' is the law's where the arguments, and the package variables that the reading takes, are together of bulk at most 1048576: NARROWER than '..Said'. Prove '..Said' where nothing that the law and all that it calls make is longer than what came in: it says more and counts as full. Else prove '..UptoSaid'. A law counts once. -/
mutual
def uptoBulk {H : Type} : DataW H → Nat
  | .lit (.string bytes) => bytes.length + 1
  | .lit _ => 1
  | .nil => 1
  | .ptr d => uptoBulk d + 1
  | .slice elems spare => uptoBulkAll elems + uptoBulkAll spare + 1
  | .agg parts => uptoBulkAll parts + 1
  | .iface _ d => uptoBulk d + 1
  | .map entries => uptoBulkEntries entries + 1
  | .held _ => 1
def uptoBulkAll {H : Type} : List (DataW H) → Nat
  | [] => 0
  | d :: r => uptoBulk d + uptoBulkAll r
def uptoBulkEntries {H : Type} : List (Lit × DataW H) → Nat
  | [] => 0
  | x :: r => uptoBulkEntry x + uptoBulkEntries r
def uptoBulkEntry {H : Type} : Lit × DataW H → Nat
  | (.string bytes, d) => bytes.length + uptoBulk d + 1
  | (_, d) => uptoBulk d + 1
 end
def uptoSmall : (H : Type) → List (DataW H) → Bool := fun _ ds => decide (uptoBulkAll ds ≤ 1048576)
def OpenSpec.upto (s : _root_.Go.ChangeSpec) : _root_.Go.OpenSpec := { _root_.Go.OpenSpec.ofChange s with cond := some uptoSmall }

/-- 'laws.FnQueries', WHERE WHAT IT READS IS OF BULK AT MOST 1048576: true; the input reads as it did. -/
def fnQueriesUptoRow : OpenClaim := { program := "ytajelalimiobeaa", sum := "0745c378e3c5b33775690a011fe3ba7d93b7fef7812bd64c90d6a4782c3ac741", func := "loop.example/g00064/laws.FnQueries", spec := "fnQueries", inPlace := ["internal/bytealg.abigen_runtime_cmpstring"], unfollowed := true, recurses := true, plainKeys := false, apart := false, narrowed := true }
def FnQueriesUptoSaid : Prop := fnQueriesUptoRow.holds Try.pinned (OpenSpec.upto fnQueriesSpec)

/-- 'laws.FnExactNewWorld', WHERE WHAT IT READS IS OF BULK AT MOST 1048576: true; the input reads as it did. -/
def fnExactNewWorldUptoRow : OpenClaim := { program := "ytajelalimiobeaa", sum := "0745c378e3c5b33775690a011fe3ba7d93b7fef7812bd64c90d6a4782c3ac741", func := "loop.example/g00064/laws.FnExactNewWorld", spec := "fnExactNewWorld", plainKeys := false, apart := false, narrowed := true }
def FnExactNewWorldUptoSaid : Prop := fnExactNewWorldUptoRow.holds Try.pinned (OpenSpec.upto fnExactNewWorldSpec)

/-- 'laws.FnExactGoodWorld', WHERE WHAT IT READS IS OF BULK AT MOST 1048576: true; the input reads as it did. -/
def fnExactGoodWorldUptoRow : OpenClaim := { program := "ytajelalimiobeaa", sum := "0745c378e3c5b33775690a011fe3ba7d93b7fef7812bd64c90d6a4782c3ac741", func := "loop.example/g00064/laws.FnExactGoodWorld", spec := "fnExactGoodWorld", plainKeys := false, apart := false, narrowed := true }
def FnExactGoodWorldUptoSaid : Prop := fnExactGoodWorldUptoRow.holds Try.pinned (OpenSpec.upto fnExactGoodWorldSpec)

/-- 'laws.FnExactSpawn', WHERE WHAT IT READS IS OF BULK AT MOST 1048576: true; the input reads as it did. -/
def fnExactSpawnUptoRow : OpenClaim := { program := "ytajelalimiobeaa", sum := "0745c378e3c5b33775690a011fe3ba7d93b7fef7812bd64c90d6a4782c3ac741", func := "loop.example/g00064/laws.FnExactSpawn", spec := "fnExactSpawn", plainKeys := false, apart := false, narrowed := true }
def FnExactSpawnUptoSaid : Prop := fnExactSpawnUptoRow.holds Try.pinned (OpenSpec.upto fnExactSpawnSpec)

/-- 'laws.FnExactDespawn', WHERE WHAT IT READS IS OF BULK AT MOST 1048576: true; the input reads as it did. -/
def fnExactDespawnUptoRow : OpenClaim := { program := "ytajelalimiobeaa", sum := "0745c378e3c5b33775690a011fe3ba7d93b7fef7812bd64c90d6a4782c3ac741", func := "loop.example/g00064/laws.FnExactDespawn", spec := "fnExactDespawn", unfollowed := true, recurses := true, plainKeys := false, apart := false, narrowed := true }
def FnExactDespawnUptoSaid : Prop := fnExactDespawnUptoRow.holds Try.pinned (OpenSpec.upto fnExactDespawnSpec)

/-- 'laws.FnExactSetPart', WHERE WHAT IT READS IS OF BULK AT MOST 1048576: true; the input reads as it did. -/
def fnExactSetPartUptoRow : OpenClaim := { program := "ytajelalimiobeaa", sum := "0745c378e3c5b33775690a011fe3ba7d93b7fef7812bd64c90d6a4782c3ac741", func := "loop.example/g00064/laws.FnExactSetPart", spec := "fnExactSetPart", inPlace := ["internal/bytealg.abigen_runtime_cmpstring", "slices.overlaps[loop.example/g00064/impl.Part]"], unfollowed := true, recurses := true, plainKeys := false, apart := false, narrowed := true }
def FnExactSetPartUptoSaid : Prop := fnExactSetPartUptoRow.holds Try.pinned (OpenSpec.upto fnExactSetPartSpec)

/-- 'laws.FnExactDropPart', WHERE WHAT IT READS IS OF BULK AT MOST 1048576: true; the input reads as it did. -/
def fnExactDropPartUptoRow : OpenClaim := { program := "ytajelalimiobeaa", sum := "0745c378e3c5b33775690a011fe3ba7d93b7fef7812bd64c90d6a4782c3ac741", func := "loop.example/g00064/laws.FnExactDropPart", spec := "fnExactDropPart", inPlace := ["internal/bytealg.abigen_runtime_cmpstring"], unfollowed := true, recurses := true, plainKeys := false, apart := false, narrowed := true }
def FnExactDropPartUptoSaid : Prop := fnExactDropPartUptoRow.holds Try.pinned (OpenSpec.upto fnExactDropPartSpec)

/-- 'laws.FnExactNextTick', WHERE WHAT IT READS IS OF BULK AT MOST 1048576: true; the input reads as it did. -/
def fnExactNextTickUptoRow : OpenClaim := { program := "ytajelalimiobeaa", sum := "0745c378e3c5b33775690a011fe3ba7d93b7fef7812bd64c90d6a4782c3ac741", func := "loop.example/g00064/laws.FnExactNextTick", spec := "fnExactNextTick", plainKeys := false, apart := false, narrowed := true }
def FnExactNextTickUptoSaid : Prop := fnExactNextTickUptoRow.holds Try.pinned (OpenSpec.upto fnExactNextTickSpec)

/-- 'laws.FnExactQueryWorld', WHERE WHAT IT READS IS OF BULK AT MOST 1048576: true; the input reads as it did. -/
def fnExactQueryWorldUptoRow : OpenClaim := { program := "ytajelalimiobeaa", sum := "0745c378e3c5b33775690a011fe3ba7d93b7fef7812bd64c90d6a4782c3ac741", func := "loop.example/g00064/laws.FnExactQueryWorld", spec := "fnExactQueryWorld", inPlace := ["internal/bytealg.abigen_runtime_cmpstring"], unfollowed := true, recurses := true, plainKeys := false, apart := false, narrowed := true }
def FnExactQueryWorldUptoSaid : Prop := fnExactQueryWorldUptoRow.holds Try.pinned (OpenSpec.upto fnExactQueryWorldSpec)

/-- 'laws.FnExactKindsOf', WHERE WHAT IT READS IS OF BULK AT MOST 1048576: true; the input reads as it did. -/
def fnExactKindsOfUptoRow : OpenClaim := { program := "ytajelalimiobeaa", sum := "0745c378e3c5b33775690a011fe3ba7d93b7fef7812bd64c90d6a4782c3ac741", func := "loop.example/g00064/laws.FnExactKindsOf", spec := "fnExactKindsOf", unfollowed := true, recurses := true, plainKeys := false, apart := false, narrowed := true }
def FnExactKindsOfUptoSaid : Prop := fnExactKindsOfUptoRow.holds Try.pinned (OpenSpec.upto fnExactKindsOfSpec)

end Rows
end Go.Proofs.Ytajelalimiobeaa
