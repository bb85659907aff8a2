/-
  No cell of these rows narrows 'for every input' (looked for: loops, veiled, ifaces, maps, wideKeys, modest, calm, conditions, laid).
  DERIVED. THE GIVEN ROWS OF THIS SEAT. 5 by the template 'for every input the law returns true; each argument reads behind the call as it read before'; 0 by the template 'total and deterministic' (their statements: YtpeiblodefaajaaTotals.lean).
  GIVEN WITH THE SEED: the statements are not yours to turn. If you find one false, say at which input.
  Laid BY PROGRAM, IN A SANDBOX (cutbox-rows.mjs): the forced cells as the released guide's own fill.sh prints them over the translation baa0e173213c3b2a… (all of the seat's roots in one cut). By AI agents, Wed Nov 11 2026. No macro, syntax, notation, axiom, sorry.
-/
import Derived.Test.YtpeiblodefaajaaChecked
import GoSem.Claim
import GoSem.ClaimJoined
import GoSem.ClaimMapViews
import Derived.JoinedTies
import Derived.KernelRfl
namespace Go.Proofs.Ytpeiblodefaajaa
/- THE CELL 'sum', in the pinned program and in every row, IS THE sha256 OF THE DUMP (.gsa) THAT YtpeiblodefaajaaProg.lean LOADS. Nothing in Lean hashes anything: it is a label: what it is worth is what the hold of that sum in a sandbox is worth. -/
noncomputable def Try.pinned : Pinned := { name := "ytpeiblodefaajaa", sum := "baa0e173213c3b2a67a86e8cab00ab85c2e52d079e1cd033eef4e2e170349963", checked := Try.checked }
namespace Rows
def none {H : Type} : Left H := { results := [], args := [] }

/-- 'laws.FnExactGoodEmitter': WHATEVER THE INPUT: true; the input reads as it did. -/
def fnExactGoodEmitterSpec : ChangeSpec := { name := "fnExactGoodEmitter", fn := fun _ => fun
  | [d] => { results := [.lit (.bool true)], args := [d] }
  | _ => none }
def fnExactGoodEmitterRow : OpenClaim := { program := "ytpeiblodefaajaa", sum := "baa0e173213c3b2a67a86e8cab00ab85c2e52d079e1cd033eef4e2e170349963", func := "loop.example/g00064/laws.FnExactGoodEmitter", spec := "fnExactGoodEmitter", apart := false }
def FnExactGoodEmitterSaid : Prop := fnExactGoodEmitterRow.holds Try.pinned (OpenSpec.ofChange fnExactGoodEmitterSpec)

/-- ITS FALSE NEIGHBOUR: 'it returns false'. Refute it at one input. -/
def fnExactGoodEmitterWrong : ChangeSpec := { name := "fnExactGoodEmitter", fn := fun _ => fun
  | [d] => { results := [.lit (.bool false)], args := [d] }
  | _ => none }
def FnExactGoodEmitterWrongFalsely : Prop := fnExactGoodEmitterRow.holds Try.pinned (OpenSpec.ofChange fnExactGoodEmitterWrong)

/-- 'laws.FnExactGoodCloud': WHATEVER THE INPUT: true; the input reads as it did. -/
def fnExactGoodCloudSpec : ChangeSpec := { name := "fnExactGoodCloud", fn := fun _ => fun
  | [d] => { results := [.lit (.bool true)], args := [d] }
  | _ => none }
def fnExactGoodCloudRow : OpenClaim := { program := "ytpeiblodefaajaa", sum := "baa0e173213c3b2a67a86e8cab00ab85c2e52d079e1cd033eef4e2e170349963", func := "loop.example/g00064/laws.FnExactGoodCloud", spec := "fnExactGoodCloud", apart := false }
def FnExactGoodCloudSaid : Prop := fnExactGoodCloudRow.holds Try.pinned (OpenSpec.ofChange fnExactGoodCloudSpec)

/-- ITS FALSE NEIGHBOUR: 'it returns false'. Refute it at one input. -/
def fnExactGoodCloudWrong : ChangeSpec := { name := "fnExactGoodCloud", fn := fun _ => fun
  | [d] => { results := [.lit (.bool false)], args := [d] }
  | _ => none }
def FnExactGoodCloudWrongFalsely : Prop := fnExactGoodCloudRow.holds Try.pinned (OpenSpec.ofChange fnExactGoodCloudWrong)

/-- 'laws.FnExactPickByWeight': WHATEVER THE INPUT: true; the input reads as it did. -/
def fnExactPickByWeightSpec : ChangeSpec := { name := "fnExactPickByWeight", fn := fun _ => fun
  | [d1, d2] => { results := [.lit (.bool true)], args := [d1, d2] }
  | _ => none }
def fnExactPickByWeightRow : OpenClaim := { program := "ytpeiblodefaajaa", sum := "baa0e173213c3b2a67a86e8cab00ab85c2e52d079e1cd033eef4e2e170349963", func := "loop.example/g00064/laws.FnExactPickByWeight", spec := "fnExactPickByWeight", unfollowed := true, recurses := true, apart := false }
def FnExactPickByWeightSaid : Prop := fnExactPickByWeightRow.holds Try.pinned (OpenSpec.ofChange fnExactPickByWeightSpec)

/-- ITS FALSE NEIGHBOUR: 'it returns false'. Refute it at one input. -/
def fnExactPickByWeightWrong : ChangeSpec := { name := "fnExactPickByWeight", fn := fun _ => fun
  | [d1, d2] => { results := [.lit (.bool false)], args := [d1, d2] }
  | _ => none }
def FnExactPickByWeightWrongFalsely : Prop := fnExactPickByWeightRow.holds Try.pinned (OpenSpec.ofChange fnExactPickByWeightWrong)

/-- 'laws.FnExactShuffleBy': WHATEVER THE INPUT: true; the input reads as it did. -/
def fnExactShuffleBySpec : ChangeSpec := { name := "fnExactShuffleBy", fn := fun _ => fun
  | [d1, d2] => { results := [.lit (.bool true)], args := [d1, d2] }
  | _ => none }
def fnExactShuffleByRow : OpenClaim := { program := "ytpeiblodefaajaa", sum := "baa0e173213c3b2a67a86e8cab00ab85c2e52d079e1cd033eef4e2e170349963", func := "loop.example/g00064/laws.FnExactShuffleBy", spec := "fnExactShuffleBy", unfollowed := true, recurses := true, apart := false }
def FnExactShuffleBySaid : Prop := fnExactShuffleByRow.holds Try.pinned (OpenSpec.ofChange fnExactShuffleBySpec)

/-- ITS FALSE NEIGHBOUR: 'it returns false'. Refute it at one input. -/
def fnExactShuffleByWrong : ChangeSpec := { name := "fnExactShuffleBy", fn := fun _ => fun
  | [d1, d2] => { results := [.lit (.bool false)], args := [d1, d2] }
  | _ => none }
def FnExactShuffleByWrongFalsely : Prop := fnExactShuffleByRow.holds Try.pinned (OpenSpec.ofChange fnExactShuffleByWrong)

/-- 'laws.FnExactNextCoin': WHATEVER THE INPUT: true; the input reads as it did. -/
def fnExactNextCoinSpec : ChangeSpec := { name := "fnExactNextCoin", fn := fun _ => fun
  | [d] => { results := [.lit (.bool true)], args := [d] }
  | _ => none }
def fnExactNextCoinRow : OpenClaim := { program := "ytpeiblodefaajaa", sum := "baa0e173213c3b2a67a86e8cab00ab85c2e52d079e1cd033eef4e2e170349963", func := "loop.example/g00064/laws.FnExactNextCoin", spec := "fnExactNextCoin", apart := false }
def FnExactNextCoinSaid : Prop := fnExactNextCoinRow.holds Try.pinned (OpenSpec.ofChange fnExactNextCoinSpec)

/-- ITS FALSE NEIGHBOUR: 'it returns false'. Refute it at one input. -/
def fnExactNextCoinWrong : ChangeSpec := { name := "fnExactNextCoin", fn := fun _ => fun
  | [d] => { results := [.lit (.bool false)], args := [d] }
  | _ => none }
def FnExactNextCoinWrongFalsely : Prop := fnExactNextCoinRow.holds Try.pinned (OpenSpec.ofChange fnExactNextCoinWrong)

/- THE SECOND FORM. 'bulk': how many values and letters a reading holds, each counted each time it is reached (what is shared counts as often as it is met; a slice's spare places count too). A statement '..UptoSaid' is the law's where the arguments, and the package variables that the reading takes, are together of bulk at most 1048576: NARROWER than '..Said'. Prove '..Said' where nothing that the law and all that it calls make is longer than what came in: it says more and counts as full. Else prove '..UptoSaid'. A law counts once. -/
mutual
def uptoBulk {H : Type} : DataW H → Nat
  | .lit (.string bytes) => bytes.length + 1
  | .lit _ => 1
  | .nil => 1
  | .ptr d => uptoBulk d + 1
  | .slice elems spare => uptoBulkAll elems + uptoBulkAll spare + 1
  | .agg parts => uptoBulkAll parts + 1
  | .iface _ d => uptoBulk d + 1
  | .map entries => uptoBulkEntries entries + 1
  | .held _ => 1
def uptoBulkAll {H : Type} : List (DataW H) → Nat
  | [] => 0
  | d :: r => uptoBulk d + uptoBulkAll r
def uptoBulkEntries {H : Type} : List (Lit × DataW H) → Nat
  | [] => 0
  | x :: r => uptoBulkEntry x + uptoBulkEntries r
def uptoBulkEntry {H : Type} : Lit × DataW H → Nat
  | (.string bytes, d) => bytes.length + uptoBulk d + 1
  | (_, d) => uptoBulk d + 1
 end
def uptoSmall : (H : Type) → List (DataW H) → Bool := fun _ ds => decide (uptoBulkAll ds ≤ 1048576)
def OpenSpec.upto (s : _root_.Go.ChangeSpec) : _root_.Go.OpenSpec := { _root_.Go.OpenSpec.ofChange s with cond := some uptoSmall }

/-- 'laws.FnExactGoodEmitter', WHERE WHAT IT READS IS OF BULK AT MOST 1048576: true; the input reads as it did. -/
def fnExactGoodEmitterUptoRow : OpenClaim := { program := "ytpeiblodefaajaa", sum := "baa0e173213c3b2a67a86e8cab00ab85c2e52d079e1cd033eef4e2e170349963", func := "loop.example/g00064/laws.FnExactGoodEmitter", spec := "fnExactGoodEmitter", apart := false, narrowed := true }
def FnExactGoodEmitterUptoSaid : Prop := fnExactGoodEmitterUptoRow.holds Try.pinned (OpenSpec.upto fnExactGoodEmitterSpec)

/-- 'laws.FnExactGoodCloud', WHERE WHAT IT READS IS OF BULK AT MOST 1048576: true; the input reads as it did. -/
def fnExactGoodCloudUptoRow : OpenClaim := { program := "ytpeiblodefaajaa", sum := "baa0e173213c3b2a67a86e8cab00ab85c2e52d079e1cd033eef4e2e170349963", func := "loop.example/g00064/laws.FnExactGoodCloud", spec := "fnExactGoodCloud", apart := false, narrowed := true }
def FnExactGoodCloudUptoSaid : Prop := fnExactGoodCloudUptoRow.holds Try.pinned (OpenSpec.upto fnExactGoodCloudSpec)

/-- 'laws.FnExactPickByWeight', WHERE WHAT IT READS IS OF BULK AT MOST 1048576: true; the input reads as it did. -/
def fnExactPickByWeightUptoRow : OpenClaim := { program := "ytpeiblodefaajaa", sum := "baa0e173213c3b2a67a86e8cab00ab85c2e52d079e1cd033eef4e2e170349963", func := "loop.example/g00064/laws.FnExactPickByWeight", spec := "fnExactPickByWeight", unfollowed := true, recurses := true, apart := false, narrowed := true }
def FnExactPickByWeightUptoSaid : Prop := fnExactPickByWeightUptoRow.holds Try.pinned (OpenSpec.upto fnExactPickByWeightSpec)

/-- 'laws.FnExactShuffleBy', WHERE WHAT IT READS IS OF BULK AT MOST 1048576: true; the input reads as it did. -/
def fnExactShuffleByUptoRow : OpenClaim := { program := "ytpeiblodefaajaa", sum := "baa0e173213c3b2a67a86e8cab00ab85c2e52d079e1cd033eef4e2e170349963", func := "loop.example/g00064/laws.FnExactShuffleBy", spec := "fnExactShuffleBy", unfollowed := true, recurses := true, apart := false, narrowed := true }
def FnExactShuffleByUptoSaid : Prop := fnExactShuffleByUptoRow.holds Try.pinned (OpenSpec.upto fnExactShuffleBySpec)

/-- 'laws.FnExactNextCoin', WHERE WHAT IT READS IS OF BULK AT MOST 1048576: true; the input reads as it did. -/
def fnExactNextCoinUptoRow : OpenClaim := { program := "ytpeiblodefaajaa", sum := "baa0e173213c3b2a67a86e8cab00ab85c2e52d079e1cd033eef4e2e170349963", func := "loop.example/g00064/laws.FnExactNextCoin", spec := "fnExactNextCoin", apart := false, narrowed := true }
def FnExactNextCoinUptoSaid : Prop := fnExactNextCoinUptoRow.holds Try.pinned (OpenSpec.upto fnExactNextCoinSpec)

end Rows
end Go.Proofs.Ytpeiblodefaajaa
