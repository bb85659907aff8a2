/-
  No cell of these rows narrows 'for every input' (looked for: loops, veiled, ifaces, maps, wideKeys, modest, calm, conditions, laid).
  DERIVED. THE GIVEN ROWS OF THIS SEAT. 6 by the template 'for every input the law returns true; each argument reads behind the call as it read before'; 0 by the template 'total and deterministic' (their statements: YtoimpkhgdpkhkaaTotals.lean).
  GIVEN WITH THE SEED: the statements are not yours to turn. If you find one false, say at which input.
  Laid BY PROGRAM, IN A SANDBOX (cutbox-rows.mjs): the forced cells as the released guide's own fill.sh prints them over the translation 603f55cac4b87487… (all of the seat's roots in one cut). By AI agents, Wed Nov 11 2026. No macro, syntax, notation, axiom, sorry.
-/
import Derived.Test.YtoimpkhgdpkhkaaChecked
import GoSem.Claim
import GoSem.ClaimJoined
import GoSem.ClaimMapViews
import Derived.JoinedTies
import Derived.KernelRfl
namespace Go.Proofs.Ytoimpkhgdpkhkaa
/- THE CELL 'sum', in the pinned program and in every row, IS THE sha256 OF THE DUMP (.gsa) THAT YtoimpkhgdpkhkaaProg.lean LOADS. Nothing in Lean hashes anything: it is a label: what it is worth is what the hold of that sum in a sandbox is worth. -/
noncomputable def Try.pinned : Pinned := { name := "ytoimpkhgdpkhkaa", sum := "603f55cac4b87487f5914d044896419e93736b0efef3d59f6e21b49df875ea2c", checked := Try.checked }
namespace Rows
def none {H : Type} : Left H := { results := [], args := [] }

/-- 'laws.FnExactGoodItem': WHATEVER THE INPUT: true; the input reads as it did. -/
def fnExactGoodItemSpec : ChangeSpec := { name := "fnExactGoodItem", fn := fun _ => fun
  | [d] => { results := [.lit (.bool true)], args := [d] }
  | _ => none }
def fnExactGoodItemRow : OpenClaim := { program := "ytoimpkhgdpkhkaa", sum := "603f55cac4b87487f5914d044896419e93736b0efef3d59f6e21b49df875ea2c", func := "loop.example/g00064/laws.FnExactGoodItem", spec := "fnExactGoodItem", apart := false }
def FnExactGoodItemSaid : Prop := fnExactGoodItemRow.holds Try.pinned (OpenSpec.ofChange fnExactGoodItemSpec)

/-- ITS FALSE NEIGHBOUR: 'it returns false'. Refute it at one input. -/
def fnExactGoodItemWrong : ChangeSpec := { name := "fnExactGoodItem", fn := fun _ => fun
  | [d] => { results := [.lit (.bool false)], args := [d] }
  | _ => none }
def FnExactGoodItemWrongFalsely : Prop := fnExactGoodItemRow.holds Try.pinned (OpenSpec.ofChange fnExactGoodItemWrong)

/-- 'laws.FnExactSeen': WHATEVER THE INPUT: true; the input reads as it did. -/
def fnExactSeenSpec : ChangeSpec := { name := "fnExactSeen", fn := fun _ => fun
  | [d1, d2] => { results := [.lit (.bool true)], args := [d1, d2] }
  | _ => none }
def fnExactSeenRow : OpenClaim := { program := "ytoimpkhgdpkhkaa", sum := "603f55cac4b87487f5914d044896419e93736b0efef3d59f6e21b49df875ea2c", func := "loop.example/g00064/laws.FnExactSeen", spec := "fnExactSeen", apart := false }
def FnExactSeenSaid : Prop := fnExactSeenRow.holds Try.pinned (OpenSpec.ofChange fnExactSeenSpec)

/-- ITS FALSE NEIGHBOUR: 'it returns false'. Refute it at one input. -/
def fnExactSeenWrong : ChangeSpec := { name := "fnExactSeen", fn := fun _ => fun
  | [d1, d2] => { results := [.lit (.bool false)], args := [d1, d2] }
  | _ => none }
def FnExactSeenWrongFalsely : Prop := fnExactSeenRow.holds Try.pinned (OpenSpec.ofChange fnExactSeenWrong)

/-- 'laws.FnExactGoodSheet': WHATEVER THE INPUT: true; the input reads as it did. -/
def fnExactGoodSheetSpec : ChangeSpec := { name := "fnExactGoodSheet", fn := fun _ => fun
  | [d] => { results := [.lit (.bool true)], args := [d] }
  | _ => none }
def fnExactGoodSheetRow : OpenClaim := { program := "ytoimpkhgdpkhkaa", sum := "603f55cac4b87487f5914d044896419e93736b0efef3d59f6e21b49df875ea2c", func := "loop.example/g00064/laws.FnExactGoodSheet", spec := "fnExactGoodSheet", apart := false }
def FnExactGoodSheetSaid : Prop := fnExactGoodSheetRow.holds Try.pinned (OpenSpec.ofChange fnExactGoodSheetSpec)

/-- ITS FALSE NEIGHBOUR: 'it returns false'. Refute it at one input. -/
def fnExactGoodSheetWrong : ChangeSpec := { name := "fnExactGoodSheet", fn := fun _ => fun
  | [d] => { results := [.lit (.bool false)], args := [d] }
  | _ => none }
def FnExactGoodSheetWrongFalsely : Prop := fnExactGoodSheetRow.holds Try.pinned (OpenSpec.ofChange fnExactGoodSheetWrong)

/-- 'laws.FnExactPaintBox': WHATEVER THE INPUT: true; the input reads as it did. -/
def fnExactPaintBoxSpec : ChangeSpec := { name := "fnExactPaintBox", fn := fun _ => fun
  | [d1, d2, d3] => { results := [.lit (.bool true)], args := [d1, d2, d3] }
  | _ => none }
def fnExactPaintBoxRow : OpenClaim := { program := "ytoimpkhgdpkhkaa", sum := "603f55cac4b87487f5914d044896419e93736b0efef3d59f6e21b49df875ea2c", func := "loop.example/g00064/laws.FnExactPaintBox", spec := "fnExactPaintBox", apart := false }
def FnExactPaintBoxSaid : Prop := fnExactPaintBoxRow.holds Try.pinned (OpenSpec.ofChange fnExactPaintBoxSpec)

/-- ITS FALSE NEIGHBOUR: 'it returns false'. Refute it at one input. -/
def fnExactPaintBoxWrong : ChangeSpec := { name := "fnExactPaintBox", fn := fun _ => fun
  | [d1, d2, d3] => { results := [.lit (.bool false)], args := [d1, d2, d3] }
  | _ => none }
def FnExactPaintBoxWrongFalsely : Prop := fnExactPaintBoxRow.holds Try.pinned (OpenSpec.ofChange fnExactPaintBoxWrong)

/-- 'laws.FnExactPaintLine': WHATEVER THE INPUT: true; the input reads as it did. -/
def fnExactPaintLineSpec : ChangeSpec := { name := "fnExactPaintLine", fn := fun _ => fun
  | [d1, d2, d3, d4, d5, d6] => { results := [.lit (.bool true)], args := [d1, d2, d3, d4, d5, d6] }
  | _ => none }
def fnExactPaintLineRow : OpenClaim := { program := "ytoimpkhgdpkhkaa", sum := "603f55cac4b87487f5914d044896419e93736b0efef3d59f6e21b49df875ea2c", func := "loop.example/g00064/laws.FnExactPaintLine", spec := "fnExactPaintLine", apart := false }
def FnExactPaintLineSaid : Prop := fnExactPaintLineRow.holds Try.pinned (OpenSpec.ofChange fnExactPaintLineSpec)

/-- ITS FALSE NEIGHBOUR: 'it returns false'. Refute it at one input. -/
def fnExactPaintLineWrong : ChangeSpec := { name := "fnExactPaintLine", fn := fun _ => fun
  | [d1, d2, d3, d4, d5, d6] => { results := [.lit (.bool false)], args := [d1, d2, d3, d4, d5, d6] }
  | _ => none }
def FnExactPaintLineWrongFalsely : Prop := fnExactPaintLineRow.holds Try.pinned (OpenSpec.ofChange fnExactPaintLineWrong)

/-- 'laws.FnExactSheetSum': WHATEVER THE INPUT: true; the input reads as it did. -/
def fnExactSheetSumSpec : ChangeSpec := { name := "fnExactSheetSum", fn := fun _ => fun
  | [d] => { results := [.lit (.bool true)], args := [d] }
  | _ => none }
def fnExactSheetSumRow : OpenClaim := { program := "ytoimpkhgdpkhkaa", sum := "603f55cac4b87487f5914d044896419e93736b0efef3d59f6e21b49df875ea2c", func := "loop.example/g00064/laws.FnExactSheetSum", spec := "fnExactSheetSum", apart := false }
def FnExactSheetSumSaid : Prop := fnExactSheetSumRow.holds Try.pinned (OpenSpec.ofChange fnExactSheetSumSpec)

/-- ITS FALSE NEIGHBOUR: 'it returns false'. Refute it at one input. -/
def fnExactSheetSumWrong : ChangeSpec := { name := "fnExactSheetSum", fn := fun _ => fun
  | [d] => { results := [.lit (.bool false)], args := [d] }
  | _ => none }
def FnExactSheetSumWrongFalsely : Prop := fnExactSheetSumRow.holds Try.pinned (OpenSpec.ofChange fnExactSheetSumWrong)

/- THE SECOND FORM. 'bulk': how many values and letters a reading holds, each counted each time it is reached (what is shared counts as often as it is met; a slice's spare places count too). A statement '..UptoSaid' is the law's where the arguments, and the package variables that the reading takes, are together of bulk at most 1048576: NARROWER than '..Said'. Prove '..Said' where nothing that the law and all that it calls make is longer than what came in: it says more and counts as full. Else prove '..UptoSaid'. A law counts once. -/
mutual
def uptoBulk {H : Type} : DataW H → Nat
  | .lit (.string bytes) => bytes.length + 1
  | .lit _ => 1
  | .nil => 1
  | .ptr d => uptoBulk d + 1
  | .slice elems spare => uptoBulkAll elems + uptoBulkAll spare + 1
  | .agg parts => uptoBulkAll parts + 1
  | .iface _ d => uptoBulk d + 1
  | .map entries => uptoBulkEntries entries + 1
  | .held _ => 1
def uptoBulkAll {H : Type} : List (DataW H) → Nat
  | [] => 0
  | d :: r => uptoBulk d + uptoBulkAll r
def uptoBulkEntries {H : Type} : List (Lit × DataW H) → Nat
  | [] => 0
  | x :: r => uptoBulkEntry x + uptoBulkEntries r
def uptoBulkEntry {H : Type} : Lit × DataW H → Nat
  | (.string bytes, d) => bytes.length + uptoBulk d + 1
  | (_, d) => uptoBulk d + 1
 end
def uptoSmall : (H : Type) → List (DataW H) → Bool := fun _ ds => decide (uptoBulkAll ds ≤ 1048576)
def OpenSpec.upto (s : _root_.Go.ChangeSpec) : _root_.Go.OpenSpec := { _root_.Go.OpenSpec.ofChange s with cond := some uptoSmall }

/-- 'laws.FnExactGoodItem', WHERE WHAT IT READS IS OF BULK AT MOST 1048576: true; the input reads as it did. -/
def fnExactGoodItemUptoRow : OpenClaim := { program := "ytoimpkhgdpkhkaa", sum := "603f55cac4b87487f5914d044896419e93736b0efef3d59f6e21b49df875ea2c", func := "loop.example/g00064/laws.FnExactGoodItem", spec := "fnExactGoodItem", apart := false, narrowed := true }
def FnExactGoodItemUptoSaid : Prop := fnExactGoodItemUptoRow.holds Try.pinned (OpenSpec.upto fnExactGoodItemSpec)

/-- 'laws.FnExactSeen', WHERE WHAT IT READS IS OF BULK AT MOST 1048576: true; the input reads as it did. -/
def fnExactSeenUptoRow : OpenClaim := { program := "ytoimpkhgdpkhkaa", sum := "603f55cac4b87487f5914d044896419e93736b0efef3d59f6e21b49df875ea2c", func := "loop.example/g00064/laws.FnExactSeen", spec := "fnExactSeen", apart := false, narrowed := true }
def FnExactSeenUptoSaid : Prop := fnExactSeenUptoRow.holds Try.pinned (OpenSpec.upto fnExactSeenSpec)

/-- 'laws.FnExactGoodSheet', WHERE WHAT IT READS IS OF BULK AT MOST 1048576: true; the input reads as it did. -/
def fnExactGoodSheetUptoRow : OpenClaim := { program := "ytoimpkhgdpkhkaa", sum := "603f55cac4b87487f5914d044896419e93736b0efef3d59f6e21b49df875ea2c", func := "loop.example/g00064/laws.FnExactGoodSheet", spec := "fnExactGoodSheet", apart := false, narrowed := true }
def FnExactGoodSheetUptoSaid : Prop := fnExactGoodSheetUptoRow.holds Try.pinned (OpenSpec.upto fnExactGoodSheetSpec)

/-- 'laws.FnExactPaintBox', WHERE WHAT IT READS IS OF BULK AT MOST 1048576: true; the input reads as it did. -/
def fnExactPaintBoxUptoRow : OpenClaim := { program := "ytoimpkhgdpkhkaa", sum := "603f55cac4b87487f5914d044896419e93736b0efef3d59f6e21b49df875ea2c", func := "loop.example/g00064/laws.FnExactPaintBox", spec := "fnExactPaintBox", apart := false, narrowed := true }
def FnExactPaintBoxUptoSaid : Prop := fnExactPaintBoxUptoRow.holds Try.pinned (OpenSpec.upto fnExactPaintBoxSpec)

/-- 'laws.FnExactPaintLine', WHERE WHAT IT READS IS OF BULK AT MOST 1048576: true; the input reads as it did. -/
def fnExactPaintLineUptoRow : OpenClaim := { program := "ytoimpkhgdpkhkaa", sum := "603f55cac4b87487f5914d044896419e93736b0efef3d59f6e21b49df875ea2c", func := "loop.example/g00064/laws.FnExactPaintLine", spec := "fnExactPaintLine", apart := false, narrowed := true }
def FnExactPaintLineUptoSaid : Prop := fnExactPaintLineUptoRow.holds Try.pinned (OpenSpec.upto fnExactPaintLineSpec)

/-- 'laws.FnExactSheetSum', WHERE WHAT IT READS IS OF BULK AT MOST 1048576: true; the input reads as it did. -/
def fnExactSheetSumUptoRow : OpenClaim := { program := "ytoimpkhgdpkhkaa", sum := "603f55cac4b87487f5914d044896419e93736b0efef3d59f6e21b49df875ea2c", func := "loop.example/g00064/laws.FnExactSheetSum", spec := "fnExactSheetSum", apart := false, narrowed := true }
def FnExactSheetSumUptoSaid : Prop := fnExactSheetSumUptoRow.holds Try.pinned (OpenSpec.upto fnExactSheetSumSpec)

end Rows
end Go.Proofs.Ytoimpkhgdpkhkaa
