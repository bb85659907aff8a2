/-
  No cell of these rows narrows 'for every input' (looked for: loops, veiled, ifaces, maps, wideKeys, modest, calm, conditions, laid).
  DERIVED. THE GIVEN ROWS OF THIS SEAT. 8 by the template 'for every input the law returns true; each argument reads behind the call as it read before'; 0 by the template 'total and deterministic' (their statements: YtocjgpmplmillaaTotals.lean).
  GIVEN WITH THE SEED: the statements are not yours to turn. If you find one false, say at which input.
  Laid BY PROGRAM, IN A SANDBOX (cutbox-rows.mjs): the forced cells as the released guide's own fill.sh prints them over the translation a63ec30dc97dfd38… (all of the seat's roots in one cut). By AI agents, Wed Nov 11 2026. No macro, syntax, notation, axiom, sorry.
-/
import Derived.Test.YtocjgpmplmillaaChecked
import GoSem.Claim
import GoSem.ClaimJoined
import GoSem.ClaimMapViews
import Derived.JoinedTies
import Derived.KernelRfl
namespace Go.Proofs.Ytocjgpmplmillaa
/- THE CELL 'sum', in the pinned program and in every row, IS THE sha256 OF THE DUMP (.gsa) THAT YtocjgpmplmillaaProg.lean LOADS. Nothing in Lean hashes anything: it is a label: what it is worth is what the hold of that sum in a sandbox is worth. -/
noncomputable def Try.pinned : Pinned := { name := "ytocjgpmplmillaa", sum := "a63ec30dc97dfd38d71888e19e8658e2e44df9cab0db12389f16eb061e22240a", checked := Try.checked }
namespace Rows
def none {H : Type} : Left H := { results := [], args := [] }

/-- 'laws.FnFixed': WHATEVER THE INPUT: true; the input reads as it did. -/
def fnFixedSpec : ChangeSpec := { name := "fnFixed", fn := fun _ => fun
  | [d] => { results := [.lit (.bool true)], args := [d] }
  | _ => none }
def fnFixedRow : OpenClaim := { program := "ytocjgpmplmillaa", sum := "a63ec30dc97dfd38d71888e19e8658e2e44df9cab0db12389f16eb061e22240a", func := "loop.example/g00064/laws.FnFixed", spec := "fnFixed", apart := false }
def FnFixedSaid : Prop := fnFixedRow.holds Try.pinned (OpenSpec.ofChange fnFixedSpec)

/-- ITS FALSE NEIGHBOUR: 'it returns false'. Refute it at one input. -/
def fnFixedWrong : ChangeSpec := { name := "fnFixed", fn := fun _ => fun
  | [d] => { results := [.lit (.bool false)], args := [d] }
  | _ => none }
def FnFixedWrongFalsely : Prop := fnFixedRow.holds Try.pinned (OpenSpec.ofChange fnFixedWrong)

/-- 'laws.FnExactGoodFixed': WHATEVER THE INPUT: true; the input reads as it did. -/
def fnExactGoodFixedSpec : ChangeSpec := { name := "fnExactGoodFixed", fn := fun _ => fun
  | [d] => { results := [.lit (.bool true)], args := [d] }
  | _ => none }
def fnExactGoodFixedRow : OpenClaim := { program := "ytocjgpmplmillaa", sum := "a63ec30dc97dfd38d71888e19e8658e2e44df9cab0db12389f16eb061e22240a", func := "loop.example/g00064/laws.FnExactGoodFixed", spec := "fnExactGoodFixed", apart := false }
def FnExactGoodFixedSaid : Prop := fnExactGoodFixedRow.holds Try.pinned (OpenSpec.ofChange fnExactGoodFixedSpec)

/-- ITS FALSE NEIGHBOUR: 'it returns false'. Refute it at one input. -/
def fnExactGoodFixedWrong : ChangeSpec := { name := "fnExactGoodFixed", fn := fun _ => fun
  | [d] => { results := [.lit (.bool false)], args := [d] }
  | _ => none }
def FnExactGoodFixedWrongFalsely : Prop := fnExactGoodFixedRow.holds Try.pinned (OpenSpec.ofChange fnExactGoodFixedWrong)

/-- 'laws.FnExactFixMul': WHATEVER THE INPUT: true; the input reads as it did. -/
def fnExactFixMulSpec : ChangeSpec := { name := "fnExactFixMul", fn := fun _ => fun
  | [d1, d2] => { results := [.lit (.bool true)], args := [d1, d2] }
  | _ => none }
def fnExactFixMulRow : OpenClaim := { program := "ytocjgpmplmillaa", sum := "a63ec30dc97dfd38d71888e19e8658e2e44df9cab0db12389f16eb061e22240a", func := "loop.example/g00064/laws.FnExactFixMul", spec := "fnExactFixMul", apart := false }
def FnExactFixMulSaid : Prop := fnExactFixMulRow.holds Try.pinned (OpenSpec.ofChange fnExactFixMulSpec)

/-- ITS FALSE NEIGHBOUR: 'it returns false'. Refute it at one input. -/
def fnExactFixMulWrong : ChangeSpec := { name := "fnExactFixMul", fn := fun _ => fun
  | [d1, d2] => { results := [.lit (.bool false)], args := [d1, d2] }
  | _ => none }
def FnExactFixMulWrongFalsely : Prop := fnExactFixMulRow.holds Try.pinned (OpenSpec.ofChange fnExactFixMulWrong)

/-- 'laws.FnExactFixDiv': WHATEVER THE INPUT: true; the input reads as it did. -/
def fnExactFixDivSpec : ChangeSpec := { name := "fnExactFixDiv", fn := fun _ => fun
  | [d1, d2] => { results := [.lit (.bool true)], args := [d1, d2] }
  | _ => none }
def fnExactFixDivRow : OpenClaim := { program := "ytocjgpmplmillaa", sum := "a63ec30dc97dfd38d71888e19e8658e2e44df9cab0db12389f16eb061e22240a", func := "loop.example/g00064/laws.FnExactFixDiv", spec := "fnExactFixDiv", apart := false }
def FnExactFixDivSaid : Prop := fnExactFixDivRow.holds Try.pinned (OpenSpec.ofChange fnExactFixDivSpec)

/-- ITS FALSE NEIGHBOUR: 'it returns false'. Refute it at one input. -/
def fnExactFixDivWrong : ChangeSpec := { name := "fnExactFixDiv", fn := fun _ => fun
  | [d1, d2] => { results := [.lit (.bool false)], args := [d1, d2] }
  | _ => none }
def FnExactFixDivWrongFalsely : Prop := fnExactFixDivRow.holds Try.pinned (OpenSpec.ofChange fnExactFixDivWrong)

/-- 'laws.FnExactFixRoot': WHATEVER THE INPUT: true; the input reads as it did. -/
def fnExactFixRootSpec : ChangeSpec := { name := "fnExactFixRoot", fn := fun _ => fun
  | [d] => { results := [.lit (.bool true)], args := [d] }
  | _ => none }
def fnExactFixRootRow : OpenClaim := { program := "ytocjgpmplmillaa", sum := "a63ec30dc97dfd38d71888e19e8658e2e44df9cab0db12389f16eb061e22240a", func := "loop.example/g00064/laws.FnExactFixRoot", spec := "fnExactFixRoot", apart := false }
def FnExactFixRootSaid : Prop := fnExactFixRootRow.holds Try.pinned (OpenSpec.ofChange fnExactFixRootSpec)

/-- ITS FALSE NEIGHBOUR: 'it returns false'. Refute it at one input. -/
def fnExactFixRootWrong : ChangeSpec := { name := "fnExactFixRoot", fn := fun _ => fun
  | [d] => { results := [.lit (.bool false)], args := [d] }
  | _ => none }
def FnExactFixRootWrongFalsely : Prop := fnExactFixRootRow.holds Try.pinned (OpenSpec.ofChange fnExactFixRootWrong)

/-- 'laws.FnExactLengthOf': WHATEVER THE INPUT: true; the input reads as it did. -/
def fnExactLengthOfSpec : ChangeSpec := { name := "fnExactLengthOf", fn := fun _ => fun
  | [d1, d2] => { results := [.lit (.bool true)], args := [d1, d2] }
  | _ => none }
def fnExactLengthOfRow : OpenClaim := { program := "ytocjgpmplmillaa", sum := "a63ec30dc97dfd38d71888e19e8658e2e44df9cab0db12389f16eb061e22240a", func := "loop.example/g00064/laws.FnExactLengthOf", spec := "fnExactLengthOf", inPlace := ["math/bits.Add64"], apart := false }
def FnExactLengthOfSaid : Prop := fnExactLengthOfRow.holds Try.pinned (OpenSpec.ofChange fnExactLengthOfSpec)

/-- ITS FALSE NEIGHBOUR: 'it returns false'. Refute it at one input. -/
def fnExactLengthOfWrong : ChangeSpec := { name := "fnExactLengthOf", fn := fun _ => fun
  | [d1, d2] => { results := [.lit (.bool false)], args := [d1, d2] }
  | _ => none }
def FnExactLengthOfWrongFalsely : Prop := fnExactLengthOfRow.holds Try.pinned (OpenSpec.ofChange fnExactLengthOfWrong)

/-- 'laws.FnExactNextCoin': WHATEVER THE INPUT: true; the input reads as it did. -/
def fnExactNextCoinSpec : ChangeSpec := { name := "fnExactNextCoin", fn := fun _ => fun
  | [d] => { results := [.lit (.bool true)], args := [d] }
  | _ => none }
def fnExactNextCoinRow : OpenClaim := { program := "ytocjgpmplmillaa", sum := "a63ec30dc97dfd38d71888e19e8658e2e44df9cab0db12389f16eb061e22240a", func := "loop.example/g00064/laws.FnExactNextCoin", spec := "fnExactNextCoin", apart := false }
def FnExactNextCoinSaid : Prop := fnExactNextCoinRow.holds Try.pinned (OpenSpec.ofChange fnExactNextCoinSpec)

/-- ITS FALSE NEIGHBOUR: 'it returns false'. Refute it at one input. -/
def fnExactNextCoinWrong : ChangeSpec := { name := "fnExactNextCoin", fn := fun _ => fun
  | [d] => { results := [.lit (.bool false)], args := [d] }
  | _ => none }
def FnExactNextCoinWrongFalsely : Prop := fnExactNextCoinRow.holds Try.pinned (OpenSpec.ofChange fnExactNextCoinWrong)

/-- 'laws.FnExactGoodName': WHATEVER THE INPUT: true; the input reads as it did. -/
def fnExactGoodNameSpec : ChangeSpec := { name := "fnExactGoodName", fn := fun _ => fun
  | [d] => { results := [.lit (.bool true)], args := [d] }
  | _ => none }
def fnExactGoodNameRow : OpenClaim := { program := "ytocjgpmplmillaa", sum := "a63ec30dc97dfd38d71888e19e8658e2e44df9cab0db12389f16eb061e22240a", func := "loop.example/g00064/laws.FnExactGoodName", spec := "fnExactGoodName", apart := false }
def FnExactGoodNameSaid : Prop := fnExactGoodNameRow.holds Try.pinned (OpenSpec.ofChange fnExactGoodNameSpec)

/-- ITS FALSE NEIGHBOUR: 'it returns false'. Refute it at one input. -/
def fnExactGoodNameWrong : ChangeSpec := { name := "fnExactGoodName", fn := fun _ => fun
  | [d] => { results := [.lit (.bool false)], args := [d] }
  | _ => none }
def FnExactGoodNameWrongFalsely : Prop := fnExactGoodNameRow.holds Try.pinned (OpenSpec.ofChange fnExactGoodNameWrong)

/- THE SECOND FORM. 'bulk': how many values and letters a reading holds, each counted each time it is reached (what is shared counts as often as it is met; a slice's spare places count too). A statement '..UptoSaid' is the law's where the arguments, and the package variables that the reading takes, are together of bulk at most 1048576: NARROWER than '..Said'. Prove '..Said' where nothing that the law and all that it calls make is longer than what came in: it says more and counts as full. Else prove '..UptoSaid'. A law counts once. -/
mutual
def uptoBulk {H : Type} : DataW H → Nat
  | .lit (.string bytes) => bytes.length + 1
  | .lit _ => 1
  | .nil => 1
  | .ptr d => uptoBulk d + 1
  | .slice elems spare => uptoBulkAll elems + uptoBulkAll spare + 1
  | .agg parts => uptoBulkAll parts + 1
  | .iface _ d => uptoBulk d + 1
  | .map entries => uptoBulkEntries entries + 1
  | .held _ => 1
def uptoBulkAll {H : Type} : List (DataW H) → Nat
  | [] => 0
  | d :: r => uptoBulk d + uptoBulkAll r
def uptoBulkEntries {H : Type} : List (Lit × DataW H) → Nat
  | [] => 0
  | x :: r => uptoBulkEntry x + uptoBulkEntries r
def uptoBulkEntry {H : Type} : Lit × DataW H → Nat
  | (.string bytes, d) => bytes.length + uptoBulk d + 1
  | (_, d) => uptoBulk d + 1
 end
def uptoSmall : (H : Type) → List (DataW H) → Bool := fun _ ds => decide (uptoBulkAll ds ≤ 1048576)
def OpenSpec.upto (s : _root_.Go.ChangeSpec) : _root_.Go.OpenSpec := { _root_.Go.OpenSpec.ofChange s with cond := some uptoSmall }

/-- 'laws.FnFixed', WHERE WHAT IT READS IS OF BULK AT MOST 1048576: true; the input reads as it did. -/
def fnFixedUptoRow : OpenClaim := { program := "ytocjgpmplmillaa", sum := "a63ec30dc97dfd38d71888e19e8658e2e44df9cab0db12389f16eb061e22240a", func := "loop.example/g00064/laws.FnFixed", spec := "fnFixed", apart := false, narrowed := true }
def FnFixedUptoSaid : Prop := fnFixedUptoRow.holds Try.pinned (OpenSpec.upto fnFixedSpec)

/-- 'laws.FnExactGoodFixed', WHERE WHAT IT READS IS OF BULK AT MOST 1048576: true; the input reads as it did. -/
def fnExactGoodFixedUptoRow : OpenClaim := { program := "ytocjgpmplmillaa", sum := "a63ec30dc97dfd38d71888e19e8658e2e44df9cab0db12389f16eb061e22240a", func := "loop.example/g00064/laws.FnExactGoodFixed", spec := "fnExactGoodFixed", apart := false, narrowed := true }
def FnExactGoodFixedUptoSaid : Prop := fnExactGoodFixedUptoRow.holds Try.pinned (OpenSpec.upto fnExactGoodFixedSpec)

/-- 'laws.FnExactFixMul', WHERE WHAT IT READS IS OF BULK AT MOST 1048576: true; the input reads as it did. -/
def fnExactFixMulUptoRow : OpenClaim := { program := "ytocjgpmplmillaa", sum := "a63ec30dc97dfd38d71888e19e8658e2e44df9cab0db12389f16eb061e22240a", func := "loop.example/g00064/laws.FnExactFixMul", spec := "fnExactFixMul", apart := false, narrowed := true }
def FnExactFixMulUptoSaid : Prop := fnExactFixMulUptoRow.holds Try.pinned (OpenSpec.upto fnExactFixMulSpec)

/-- 'laws.FnExactFixDiv', WHERE WHAT IT READS IS OF BULK AT MOST 1048576: true; the input reads as it did. -/
def fnExactFixDivUptoRow : OpenClaim := { program := "ytocjgpmplmillaa", sum := "a63ec30dc97dfd38d71888e19e8658e2e44df9cab0db12389f16eb061e22240a", func := "loop.example/g00064/laws.FnExactFixDiv", spec := "fnExactFixDiv", apart := false, narrowed := true }
def FnExactFixDivUptoSaid : Prop := fnExactFixDivUptoRow.holds Try.pinned (OpenSpec.upto fnExactFixDivSpec)

/-- 'laws.FnExactFixRoot', WHERE WHAT IT READS IS OF BULK AT MOST 1048576: true; the input reads as it did. -/
def fnExactFixRootUptoRow : OpenClaim := { program := "ytocjgpmplmillaa", sum := "a63ec30dc97dfd38d71888e19e8658e2e44df9cab0db12389f16eb061e22240a", func := "loop.example/g00064/laws.FnExactFixRoot", spec := "fnExactFixRoot", apart := false, narrowed := true }
def FnExactFixRootUptoSaid : Prop := fnExactFixRootUptoRow.holds Try.pinned (OpenSpec.upto fnExactFixRootSpec)

/-- 'laws.FnExactLengthOf', WHERE WHAT IT READS IS OF BULK AT MOST 1048576: true; the input reads as it did. -/
def fnExactLengthOfUptoRow : OpenClaim := { program := "ytocjgpmplmillaa", sum := "a63ec30dc97dfd38d71888e19e8658e2e44df9cab0db12389f16eb061e22240a", func := "loop.example/g00064/laws.FnExactLengthOf", spec := "fnExactLengthOf", inPlace := ["math/bits.Add64"], apart := false, narrowed := true }
def FnExactLengthOfUptoSaid : Prop := fnExactLengthOfUptoRow.holds Try.pinned (OpenSpec.upto fnExactLengthOfSpec)

/-- 'laws.FnExactNextCoin', WHERE WHAT IT READS IS OF BULK AT MOST 1048576: true; the input reads as it did. -/
def fnExactNextCoinUptoRow : OpenClaim := { program := "ytocjgpmplmillaa", sum := "a63ec30dc97dfd38d71888e19e8658e2e44df9cab0db12389f16eb061e22240a", func := "loop.example/g00064/laws.FnExactNextCoin", spec := "fnExactNextCoin", apart := false, narrowed := true }
def FnExactNextCoinUptoSaid : Prop := fnExactNextCoinUptoRow.holds Try.pinned (OpenSpec.upto fnExactNextCoinSpec)

/-- 'laws.FnExactGoodName', WHERE WHAT IT READS IS OF BULK AT MOST 1048576: true; the input reads as it did. -/
def fnExactGoodNameUptoRow : OpenClaim := { program := "ytocjgpmplmillaa", sum := "a63ec30dc97dfd38d71888e19e8658e2e44df9cab0db12389f16eb061e22240a", func := "loop.example/g00064/laws.FnExactGoodName", spec := "fnExactGoodName", apart := false, narrowed := true }
def FnExactGoodNameUptoSaid : Prop := fnExactGoodNameUptoRow.holds Try.pinned (OpenSpec.upto fnExactGoodNameSpec)

end Rows
end Go.Proofs.Ytocjgpmplmillaa
