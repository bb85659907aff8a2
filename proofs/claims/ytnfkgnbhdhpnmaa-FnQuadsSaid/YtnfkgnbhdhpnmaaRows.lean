/-
  No cell of these rows narrows 'for every input' (looked for: loops, veiled, ifaces, maps, wideKeys, modest, calm, conditions, laid).
  DERIVED. THE GIVEN ROWS OF THIS SEAT. 8 by the template 'for every input the law returns true; each argument reads behind the call as it read before'; 0 by the template 'total and deterministic' (their statements: YtnfkgnbhdhpnmaaTotals.lean).
  GIVEN WITH THE SEED: the statements are not yours to turn. If you find one false, say at which input.
  Laid BY PROGRAM, IN A SANDBOX (cutbox-rows.mjs): the forced cells as the released guide's own fill.sh prints them over the translation c1f736bb94127793… (all of the seat's roots in one cut). By AI agents, Wed Nov 11 2026. No macro, syntax, notation, axiom, sorry.
-/
import Derived.Test.YtnfkgnbhdhpnmaaChecked
import GoSem.Claim
import GoSem.ClaimJoined
import GoSem.ClaimMapViews
import Derived.JoinedTies
import Derived.KernelRfl
namespace Go.Proofs.Ytnfkgnbhdhpnmaa
/- THE CELL 'sum', in the pinned program and in every row, IS THE sha256 OF THE DUMP (.gsa) THAT YtnfkgnbhdhpnmaaProg.lean LOADS. Nothing in Lean hashes anything: it is a label: what it is worth is what the hold of that sum in a sandbox is worth. -/
noncomputable def Try.pinned : Pinned := { name := "ytnfkgnbhdhpnmaa", sum := "c1f736bb9412779305354be638da4ce2e719ec6581251c83df079f2f06f75bec", checked := Try.checked }
namespace Rows
def none {H : Type} : Left H := { results := [], args := [] }

/-- 'laws.FnQuads': WHATEVER THE INPUT: true; the input reads as it did. -/
def fnQuadsSpec : ChangeSpec := { name := "fnQuads", fn := fun _ => fun
  | [d] => { results := [.lit (.bool true)], args := [d] }
  | _ => none }
def fnQuadsRow : OpenClaim := { program := "ytnfkgnbhdhpnmaa", sum := "c1f736bb9412779305354be638da4ce2e719ec6581251c83df079f2f06f75bec", func := "loop.example/g00064/laws.FnQuads", spec := "fnQuads", apart := false }
def FnQuadsSaid : Prop := fnQuadsRow.holds Try.pinned (OpenSpec.ofChange fnQuadsSpec)

/-- ITS FALSE NEIGHBOUR: 'it returns false'. Refute it at one input. -/
def fnQuadsWrong : ChangeSpec := { name := "fnQuads", fn := fun _ => fun
  | [d] => { results := [.lit (.bool false)], args := [d] }
  | _ => none }
def FnQuadsWrongFalsely : Prop := fnQuadsRow.holds Try.pinned (OpenSpec.ofChange fnQuadsWrong)

/-- 'laws.FnExactGoodBlocks': WHATEVER THE INPUT: true; the input reads as it did. -/
def fnExactGoodBlocksSpec : ChangeSpec := { name := "fnExactGoodBlocks", fn := fun _ => fun
  | [d] => { results := [.lit (.bool true)], args := [d] }
  | _ => none }
def fnExactGoodBlocksRow : OpenClaim := { program := "ytnfkgnbhdhpnmaa", sum := "c1f736bb9412779305354be638da4ce2e719ec6581251c83df079f2f06f75bec", func := "loop.example/g00064/laws.FnExactGoodBlocks", spec := "fnExactGoodBlocks", apart := false }
def FnExactGoodBlocksSaid : Prop := fnExactGoodBlocksRow.holds Try.pinned (OpenSpec.ofChange fnExactGoodBlocksSpec)

/-- ITS FALSE NEIGHBOUR: 'it returns false'. Refute it at one input. -/
def fnExactGoodBlocksWrong : ChangeSpec := { name := "fnExactGoodBlocks", fn := fun _ => fun
  | [d] => { results := [.lit (.bool false)], args := [d] }
  | _ => none }
def FnExactGoodBlocksWrongFalsely : Prop := fnExactGoodBlocksRow.holds Try.pinned (OpenSpec.ofChange fnExactGoodBlocksWrong)

/-- 'laws.FnExactBlockAt': WHATEVER THE INPUT: true; the input reads as it did. -/
def fnExactBlockAtSpec : ChangeSpec := { name := "fnExactBlockAt", fn := fun _ => fun
  | [d1, d2, d3, d4] => { results := [.lit (.bool true)], args := [d1, d2, d3, d4] }
  | _ => none }
def fnExactBlockAtRow : OpenClaim := { program := "ytnfkgnbhdhpnmaa", sum := "c1f736bb9412779305354be638da4ce2e719ec6581251c83df079f2f06f75bec", func := "loop.example/g00064/laws.FnExactBlockAt", spec := "fnExactBlockAt", apart := false }
def FnExactBlockAtSaid : Prop := fnExactBlockAtRow.holds Try.pinned (OpenSpec.ofChange fnExactBlockAtSpec)

/-- ITS FALSE NEIGHBOUR: 'it returns false'. Refute it at one input. -/
def fnExactBlockAtWrong : ChangeSpec := { name := "fnExactBlockAt", fn := fun _ => fun
  | [d1, d2, d3, d4] => { results := [.lit (.bool false)], args := [d1, d2, d3, d4] }
  | _ => none }
def FnExactBlockAtWrongFalsely : Prop := fnExactBlockAtRow.holds Try.pinned (OpenSpec.ofChange fnExactBlockAtWrong)

/-- 'laws.FnExactSetBlock': WHATEVER THE INPUT: true; the input reads as it did. -/
def fnExactSetBlockSpec : ChangeSpec := { name := "fnExactSetBlock", fn := fun _ => fun
  | [d1, d2, d3, d4, d5] => { results := [.lit (.bool true)], args := [d1, d2, d3, d4, d5] }
  | _ => none }
def fnExactSetBlockRow : OpenClaim := { program := "ytnfkgnbhdhpnmaa", sum := "c1f736bb9412779305354be638da4ce2e719ec6581251c83df079f2f06f75bec", func := "loop.example/g00064/laws.FnExactSetBlock", spec := "fnExactSetBlock", apart := false }
def FnExactSetBlockSaid : Prop := fnExactSetBlockRow.holds Try.pinned (OpenSpec.ofChange fnExactSetBlockSpec)

/-- ITS FALSE NEIGHBOUR: 'it returns false'. Refute it at one input. -/
def fnExactSetBlockWrong : ChangeSpec := { name := "fnExactSetBlock", fn := fun _ => fun
  | [d1, d2, d3, d4, d5] => { results := [.lit (.bool false)], args := [d1, d2, d3, d4, d5] }
  | _ => none }
def FnExactSetBlockWrongFalsely : Prop := fnExactSetBlockRow.holds Try.pinned (OpenSpec.ofChange fnExactSetBlockWrong)

/-- 'laws.FnExactOpenFaces': WHATEVER THE INPUT: true; the input reads as it did. -/
def fnExactOpenFacesSpec : ChangeSpec := { name := "fnExactOpenFaces", fn := fun _ => fun
  | [d] => { results := [.lit (.bool true)], args := [d] }
  | _ => none }
def fnExactOpenFacesRow : OpenClaim := { program := "ytnfkgnbhdhpnmaa", sum := "c1f736bb9412779305354be638da4ce2e719ec6581251c83df079f2f06f75bec", func := "loop.example/g00064/laws.FnExactOpenFaces", spec := "fnExactOpenFaces", apart := false }
def FnExactOpenFacesSaid : Prop := fnExactOpenFacesRow.holds Try.pinned (OpenSpec.ofChange fnExactOpenFacesSpec)

/-- ITS FALSE NEIGHBOUR: 'it returns false'. Refute it at one input. -/
def fnExactOpenFacesWrong : ChangeSpec := { name := "fnExactOpenFaces", fn := fun _ => fun
  | [d] => { results := [.lit (.bool false)], args := [d] }
  | _ => none }
def FnExactOpenFacesWrongFalsely : Prop := fnExactOpenFacesRow.holds Try.pinned (OpenSpec.ofChange fnExactOpenFacesWrong)

/-- 'laws.FnExactQuadsOf': WHATEVER THE INPUT: true; the input reads as it did. -/
def fnExactQuadsOfSpec : ChangeSpec := { name := "fnExactQuadsOf", fn := fun _ => fun
  | [d] => { results := [.lit (.bool true)], args := [d] }
  | _ => none }
def fnExactQuadsOfRow : OpenClaim := { program := "ytnfkgnbhdhpnmaa", sum := "c1f736bb9412779305354be638da4ce2e719ec6581251c83df079f2f06f75bec", func := "loop.example/g00064/laws.FnExactQuadsOf", spec := "fnExactQuadsOf", apart := false }
def FnExactQuadsOfSaid : Prop := fnExactQuadsOfRow.holds Try.pinned (OpenSpec.ofChange fnExactQuadsOfSpec)

/-- ITS FALSE NEIGHBOUR: 'it returns false'. Refute it at one input. -/
def fnExactQuadsOfWrong : ChangeSpec := { name := "fnExactQuadsOf", fn := fun _ => fun
  | [d] => { results := [.lit (.bool false)], args := [d] }
  | _ => none }
def FnExactQuadsOfWrongFalsely : Prop := fnExactQuadsOfRow.holds Try.pinned (OpenSpec.ofChange fnExactQuadsOfWrong)

/-- 'laws.FnExactFloodFrom': WHATEVER THE INPUT: true; the input reads as it did. -/
def fnExactFloodFromSpec : ChangeSpec := { name := "fnExactFloodFrom", fn := fun _ => fun
  | [d1, d2, d3, d4] => { results := [.lit (.bool true)], args := [d1, d2, d3, d4] }
  | _ => none }
def fnExactFloodFromRow : OpenClaim := { program := "ytnfkgnbhdhpnmaa", sum := "c1f736bb9412779305354be638da4ce2e719ec6581251c83df079f2f06f75bec", func := "loop.example/g00064/laws.FnExactFloodFrom", spec := "fnExactFloodFrom", unfollowed := true, recurses := true, apart := false }
def FnExactFloodFromSaid : Prop := fnExactFloodFromRow.holds Try.pinned (OpenSpec.ofChange fnExactFloodFromSpec)

/-- ITS FALSE NEIGHBOUR: 'it returns false'. Refute it at one input. -/
def fnExactFloodFromWrong : ChangeSpec := { name := "fnExactFloodFrom", fn := fun _ => fun
  | [d1, d2, d3, d4] => { results := [.lit (.bool false)], args := [d1, d2, d3, d4] }
  | _ => none }
def FnExactFloodFromWrongFalsely : Prop := fnExactFloodFromRow.holds Try.pinned (OpenSpec.ofChange fnExactFloodFromWrong)

/-- 'laws.FnExactLightOf': WHATEVER THE INPUT: true; the input reads as it did. -/
def fnExactLightOfSpec : ChangeSpec := { name := "fnExactLightOf", fn := fun _ => fun
  | [d1, d2] => { results := [.lit (.bool true)], args := [d1, d2] }
  | _ => none }
def fnExactLightOfRow : OpenClaim := { program := "ytnfkgnbhdhpnmaa", sum := "c1f736bb9412779305354be638da4ce2e719ec6581251c83df079f2f06f75bec", func := "loop.example/g00064/laws.FnExactLightOf", spec := "fnExactLightOf", unfollowed := true, recurses := true, apart := false }
def FnExactLightOfSaid : Prop := fnExactLightOfRow.holds Try.pinned (OpenSpec.ofChange fnExactLightOfSpec)

/-- ITS FALSE NEIGHBOUR: 'it returns false'. Refute it at one input. -/
def fnExactLightOfWrong : ChangeSpec := { name := "fnExactLightOf", fn := fun _ => fun
  | [d1, d2] => { results := [.lit (.bool false)], args := [d1, d2] }
  | _ => none }
def FnExactLightOfWrongFalsely : Prop := fnExactLightOfRow.holds Try.pinned (OpenSpec.ofChange fnExactLightOfWrong)

/- THE SECOND FORM. 'bulk': how many values and letters a reading holds, each counted each time it is reached (what is shared counts as often as it is met; a slice's spare places count too). A statement '..UptoSaid' is the law's where the arguments, and the package variables that the reading takes, are together of bulk at most 1048576: NARROWER than '..Said'. Prove '..Said' where nothing that the law and all that it calls make is longer than what came in: it says more and counts as full. Else prove '..UptoSaid'. A law counts once. -/
mutual
def uptoBulk {H : Type} : DataW H → Nat
  | .lit (.string bytes) => bytes.length + 1
  | .lit _ => 1
  | .nil => 1
  | .ptr d => uptoBulk d + 1
  | .slice elems spare => uptoBulkAll elems + uptoBulkAll spare + 1
  | .agg parts => uptoBulkAll parts + 1
  | .iface _ d => uptoBulk d + 1
  | .map entries => uptoBulkEntries entries + 1
  | .held _ => 1
def uptoBulkAll {H : Type} : List (DataW H) → Nat
  | [] => 0
  | d :: r => uptoBulk d + uptoBulkAll r
def uptoBulkEntries {H : Type} : List (Lit × DataW H) → Nat
  | [] => 0
  | x :: r => uptoBulkEntry x + uptoBulkEntries r
def uptoBulkEntry {H : Type} : Lit × DataW H → Nat
  | (.string bytes, d) => bytes.length + uptoBulk d + 1
  | (_, d) => uptoBulk d + 1
 end
def uptoSmall : (H : Type) → List (DataW H) → Bool := fun _ ds => decide (uptoBulkAll ds ≤ 1048576)
def OpenSpec.upto (s : _root_.Go.ChangeSpec) : _root_.Go.OpenSpec := { _root_.Go.OpenSpec.ofChange s with cond := some uptoSmall }

/-- 'laws.FnQuads', WHERE WHAT IT READS IS OF BULK AT MOST 1048576: true; the input reads as it did. -/
def fnQuadsUptoRow : OpenClaim := { program := "ytnfkgnbhdhpnmaa", sum := "c1f736bb9412779305354be638da4ce2e719ec6581251c83df079f2f06f75bec", func := "loop.example/g00064/laws.FnQuads", spec := "fnQuads", apart := false, narrowed := true }
def FnQuadsUptoSaid : Prop := fnQuadsUptoRow.holds Try.pinned (OpenSpec.upto fnQuadsSpec)

/-- 'laws.FnExactGoodBlocks', WHERE WHAT IT READS IS OF BULK AT MOST 1048576: true; the input reads as it did. -/
def fnExactGoodBlocksUptoRow : OpenClaim := { program := "ytnfkgnbhdhpnmaa", sum := "c1f736bb9412779305354be638da4ce2e719ec6581251c83df079f2f06f75bec", func := "loop.example/g00064/laws.FnExactGoodBlocks", spec := "fnExactGoodBlocks", apart := false, narrowed := true }
def FnExactGoodBlocksUptoSaid : Prop := fnExactGoodBlocksUptoRow.holds Try.pinned (OpenSpec.upto fnExactGoodBlocksSpec)

/-- 'laws.FnExactBlockAt', WHERE WHAT IT READS IS OF BULK AT MOST 1048576: true; the input reads as it did. -/
def fnExactBlockAtUptoRow : OpenClaim := { program := "ytnfkgnbhdhpnmaa", sum := "c1f736bb9412779305354be638da4ce2e719ec6581251c83df079f2f06f75bec", func := "loop.example/g00064/laws.FnExactBlockAt", spec := "fnExactBlockAt", apart := false, narrowed := true }
def FnExactBlockAtUptoSaid : Prop := fnExactBlockAtUptoRow.holds Try.pinned (OpenSpec.upto fnExactBlockAtSpec)

/-- 'laws.FnExactSetBlock', WHERE WHAT IT READS IS OF BULK AT MOST 1048576: true; the input reads as it did. -/
def fnExactSetBlockUptoRow : OpenClaim := { program := "ytnfkgnbhdhpnmaa", sum := "c1f736bb9412779305354be638da4ce2e719ec6581251c83df079f2f06f75bec", func := "loop.example/g00064/laws.FnExactSetBlock", spec := "fnExactSetBlock", apart := false, narrowed := true }
def FnExactSetBlockUptoSaid : Prop := fnExactSetBlockUptoRow.holds Try.pinned (OpenSpec.upto fnExactSetBlockSpec)

/-- 'laws.FnExactOpenFaces', WHERE WHAT IT READS IS OF BULK AT MOST 1048576: true; the input reads as it did. -/
def fnExactOpenFacesUptoRow : OpenClaim := { program := "ytnfkgnbhdhpnmaa", sum := "c1f736bb9412779305354be638da4ce2e719ec6581251c83df079f2f06f75bec", func := "loop.example/g00064/laws.FnExactOpenFaces", spec := "fnExactOpenFaces", apart := false, narrowed := true }
def FnExactOpenFacesUptoSaid : Prop := fnExactOpenFacesUptoRow.holds Try.pinned (OpenSpec.upto fnExactOpenFacesSpec)

/-- 'laws.FnExactQuadsOf', WHERE WHAT IT READS IS OF BULK AT MOST 1048576: true; the input reads as it did. -/
def fnExactQuadsOfUptoRow : OpenClaim := { program := "ytnfkgnbhdhpnmaa", sum := "c1f736bb9412779305354be638da4ce2e719ec6581251c83df079f2f06f75bec", func := "loop.example/g00064/laws.FnExactQuadsOf", spec := "fnExactQuadsOf", apart := false, narrowed := true }
def FnExactQuadsOfUptoSaid : Prop := fnExactQuadsOfUptoRow.holds Try.pinned (OpenSpec.upto fnExactQuadsOfSpec)

/-- 'laws.FnExactFloodFrom', WHERE WHAT IT READS IS OF BULK AT MOST 1048576: true; the input reads as it did. -/
def fnExactFloodFromUptoRow : OpenClaim := { program := "ytnfkgnbhdhpnmaa", sum := "c1f736bb9412779305354be638da4ce2e719ec6581251c83df079f2f06f75bec", func := "loop.example/g00064/laws.FnExactFloodFrom", spec := "fnExactFloodFrom", unfollowed := true, recurses := true, apart := false, narrowed := true }
def FnExactFloodFromUptoSaid : Prop := fnExactFloodFromUptoRow.holds Try.pinned (OpenSpec.upto fnExactFloodFromSpec)

/-- 'laws.FnExactLightOf', WHERE WHAT IT READS IS OF BULK AT MOST 1048576: true; the input reads as it did. -/
def fnExactLightOfUptoRow : OpenClaim := { program := "ytnfkgnbhdhpnmaa", sum := "c1f736bb9412779305354be638da4ce2e719ec6581251c83df079f2f06f75bec", func := "loop.example/g00064/laws.FnExactLightOf", spec := "fnExactLightOf", unfollowed := true, recurses := true, apart := false, narrowed := true }
def FnExactLightOfUptoSaid : Prop := fnExactLightOfUptoRow.holds Try.pinned (OpenSpec.upto fnExactLightOfSpec)

end Rows
end Go.Proofs.Ytnfkgnbhdhpnmaa
