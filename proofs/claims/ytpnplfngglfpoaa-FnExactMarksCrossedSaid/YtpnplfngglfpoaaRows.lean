/-
  No cell of these rows narrows 'for every input' (looked for: loops, veiled, ifaces, maps, wideKeys, modest, calm, conditions, laid).
  DERIVED. THE GIVEN ROWS OF THIS SEAT. 8 by the template 'for every input the law returns true; each argument reads behind the call as it read before'; 0 by the template 'total and deterministic' (their statements: YtpnplfngglfpoaaTotals.lean).
  GIVEN WITH THE SEED: the statements are not yours to turn. If you find one false, say at which input.
  Laid BY PROGRAM, IN A SANDBOX (cutbox-rows.mjs): the forced cells as the released guide's own fill.sh prints them over the translation 61ae1413dbffb7cf… (all of the seat's roots in one cut). By AI agents, Wed Nov 11 2026. No macro, syntax, notation, axiom, sorry.
-/
import Derived.Test.YtpnplfngglfpoaaChecked
import GoSem.Claim
import GoSem.ClaimJoined
import GoSem.ClaimMapViews
import Derived.JoinedTies
import Derived.KernelRfl
namespace Go.Proofs.Ytpnplfngglfpoaa
/- THE CELL 'sum', in the pinned program and in every row, IS THE sha256 OF THE DUMP (.gsa) THAT YtpnplfngglfpoaaProg.lean LOADS. Nothing in Lean hashes anything: it is a label: what it is worth is what the hold of that sum in a sandbox is worth. -/
noncomputable def Try.pinned : Pinned := { name := "ytpnplfngglfpoaa", sum := "61ae1413dbffb7cf474231ca1c0bb971ff412d4787ec64c69a2e6dd8d78f9a31", checked := Try.checked }
namespace Rows
def none {H : Type} : Left H := { results := [], args := [] }

/-- 'laws.FnKeys': WHATEVER THE INPUT: true; the input reads as it did. -/
def fnKeysSpec : ChangeSpec := { name := "fnKeys", fn := fun _ => fun
  | [d] => { results := [.lit (.bool true)], args := [d] }
  | _ => none }
def fnKeysRow : OpenClaim := { program := "ytpnplfngglfpoaa", sum := "61ae1413dbffb7cf474231ca1c0bb971ff412d4787ec64c69a2e6dd8d78f9a31", func := "loop.example/g00064/laws.FnKeys", spec := "fnKeys", unfollowed := true, recurses := true, apart := false }
def FnKeysSaid : Prop := fnKeysRow.holds Try.pinned (OpenSpec.ofChange fnKeysSpec)

/-- ITS FALSE NEIGHBOUR: 'it returns false'. Refute it at one input. -/
def fnKeysWrong : ChangeSpec := { name := "fnKeys", fn := fun _ => fun
  | [d] => { results := [.lit (.bool false)], args := [d] }
  | _ => none }
def FnKeysWrongFalsely : Prop := fnKeysRow.holds Try.pinned (OpenSpec.ofChange fnKeysWrong)

/-- 'laws.FnExactGoodClip': WHATEVER THE INPUT: true; the input reads as it did. -/
def fnExactGoodClipSpec : ChangeSpec := { name := "fnExactGoodClip", fn := fun _ => fun
  | [d] => { results := [.lit (.bool true)], args := [d] }
  | _ => none }
def fnExactGoodClipRow : OpenClaim := { program := "ytpnplfngglfpoaa", sum := "61ae1413dbffb7cf474231ca1c0bb971ff412d4787ec64c69a2e6dd8d78f9a31", func := "loop.example/g00064/laws.FnExactGoodClip", spec := "fnExactGoodClip", inPlace := ["internal/bytealg.abigen_runtime_cmpstring"], apart := false }
def FnExactGoodClipSaid : Prop := fnExactGoodClipRow.holds Try.pinned (OpenSpec.ofChange fnExactGoodClipSpec)

/-- ITS FALSE NEIGHBOUR: 'it returns false'. Refute it at one input. -/
def fnExactGoodClipWrong : ChangeSpec := { name := "fnExactGoodClip", fn := fun _ => fun
  | [d] => { results := [.lit (.bool false)], args := [d] }
  | _ => none }
def FnExactGoodClipWrongFalsely : Prop := fnExactGoodClipRow.holds Try.pinned (OpenSpec.ofChange fnExactGoodClipWrong)

/-- 'laws.FnExactValueAt': WHATEVER THE INPUT: true; the input reads as it did. -/
def fnExactValueAtSpec : ChangeSpec := { name := "fnExactValueAt", fn := fun _ => fun
  | [d1, d2] => { results := [.lit (.bool true)], args := [d1, d2] }
  | _ => none }
def fnExactValueAtRow : OpenClaim := { program := "ytpnplfngglfpoaa", sum := "61ae1413dbffb7cf474231ca1c0bb971ff412d4787ec64c69a2e6dd8d78f9a31", func := "loop.example/g00064/laws.FnExactValueAt", spec := "fnExactValueAt", unfollowed := true, recurses := true, apart := false }
def FnExactValueAtSaid : Prop := fnExactValueAtRow.holds Try.pinned (OpenSpec.ofChange fnExactValueAtSpec)

/-- ITS FALSE NEIGHBOUR: 'it returns false'. Refute it at one input. -/
def fnExactValueAtWrong : ChangeSpec := { name := "fnExactValueAt", fn := fun _ => fun
  | [d1, d2] => { results := [.lit (.bool false)], args := [d1, d2] }
  | _ => none }
def FnExactValueAtWrongFalsely : Prop := fnExactValueAtRow.holds Try.pinned (OpenSpec.ofChange fnExactValueAtWrong)

/-- 'laws.FnExactFewestKeys': WHATEVER THE INPUT: true; the input reads as it did. -/
def fnExactFewestKeysSpec : ChangeSpec := { name := "fnExactFewestKeys", fn := fun _ => fun
  | [d1, d2] => { results := [.lit (.bool true)], args := [d1, d2] }
  | _ => none }
def fnExactFewestKeysRow : OpenClaim := { program := "ytpnplfngglfpoaa", sum := "61ae1413dbffb7cf474231ca1c0bb971ff412d4787ec64c69a2e6dd8d78f9a31", func := "loop.example/g00064/laws.FnExactFewestKeys", spec := "fnExactFewestKeys", apart := false }
def FnExactFewestKeysSaid : Prop := fnExactFewestKeysRow.holds Try.pinned (OpenSpec.ofChange fnExactFewestKeysSpec)

/-- ITS FALSE NEIGHBOUR: 'it returns false'. Refute it at one input. -/
def fnExactFewestKeysWrong : ChangeSpec := { name := "fnExactFewestKeys", fn := fun _ => fun
  | [d1, d2] => { results := [.lit (.bool false)], args := [d1, d2] }
  | _ => none }
def FnExactFewestKeysWrongFalsely : Prop := fnExactFewestKeysRow.holds Try.pinned (OpenSpec.ofChange fnExactFewestKeysWrong)

/-- 'laws.FnExactWorstOf': WHATEVER THE INPUT: true; the input reads as it did. -/
def fnExactWorstOfSpec : ChangeSpec := { name := "fnExactWorstOf", fn := fun _ => fun
  | [d1, d2] => { results := [.lit (.bool true)], args := [d1, d2] }
  | _ => none }
def fnExactWorstOfRow : OpenClaim := { program := "ytpnplfngglfpoaa", sum := "61ae1413dbffb7cf474231ca1c0bb971ff412d4787ec64c69a2e6dd8d78f9a31", func := "loop.example/g00064/laws.FnExactWorstOf", spec := "fnExactWorstOf", unfollowed := true, recurses := true, apart := false }
def FnExactWorstOfSaid : Prop := fnExactWorstOfRow.holds Try.pinned (OpenSpec.ofChange fnExactWorstOfSpec)

/-- ITS FALSE NEIGHBOUR: 'it returns false'. Refute it at one input. -/
def fnExactWorstOfWrong : ChangeSpec := { name := "fnExactWorstOf", fn := fun _ => fun
  | [d1, d2] => { results := [.lit (.bool false)], args := [d1, d2] }
  | _ => none }
def FnExactWorstOfWrongFalsely : Prop := fnExactWorstOfRow.holds Try.pinned (OpenSpec.ofChange fnExactWorstOfWrong)

/-- 'laws.FnExactPoseAt': WHATEVER THE INPUT: true; the input reads as it did. -/
def fnExactPoseAtSpec : ChangeSpec := { name := "fnExactPoseAt", fn := fun _ => fun
  | [d1, d2] => { results := [.lit (.bool true)], args := [d1, d2] }
  | _ => none }
def fnExactPoseAtRow : OpenClaim := { program := "ytpnplfngglfpoaa", sum := "61ae1413dbffb7cf474231ca1c0bb971ff412d4787ec64c69a2e6dd8d78f9a31", func := "loop.example/g00064/laws.FnExactPoseAt", spec := "fnExactPoseAt", inPlace := ["internal/bytealg.abigen_runtime_cmpstring"], unfollowed := true, recurses := true, apart := false }
def FnExactPoseAtSaid : Prop := fnExactPoseAtRow.holds Try.pinned (OpenSpec.ofChange fnExactPoseAtSpec)

/-- ITS FALSE NEIGHBOUR: 'it returns false'. Refute it at one input. -/
def fnExactPoseAtWrong : ChangeSpec := { name := "fnExactPoseAt", fn := fun _ => fun
  | [d1, d2] => { results := [.lit (.bool false)], args := [d1, d2] }
  | _ => none }
def FnExactPoseAtWrongFalsely : Prop := fnExactPoseAtRow.holds Try.pinned (OpenSpec.ofChange fnExactPoseAtWrong)

/-- 'laws.FnExactBlendPose': WHATEVER THE INPUT: true; the input reads as it did. -/
def fnExactBlendPoseSpec : ChangeSpec := { name := "fnExactBlendPose", fn := fun _ => fun
  | [d1, d2, d3, d4] => { results := [.lit (.bool true)], args := [d1, d2, d3, d4] }
  | _ => none }
def fnExactBlendPoseRow : OpenClaim := { program := "ytpnplfngglfpoaa", sum := "61ae1413dbffb7cf474231ca1c0bb971ff412d4787ec64c69a2e6dd8d78f9a31", func := "loop.example/g00064/laws.FnExactBlendPose", spec := "fnExactBlendPose", apart := false }
def FnExactBlendPoseSaid : Prop := fnExactBlendPoseRow.holds Try.pinned (OpenSpec.ofChange fnExactBlendPoseSpec)

/-- ITS FALSE NEIGHBOUR: 'it returns false'. Refute it at one input. -/
def fnExactBlendPoseWrong : ChangeSpec := { name := "fnExactBlendPose", fn := fun _ => fun
  | [d1, d2, d3, d4] => { results := [.lit (.bool false)], args := [d1, d2, d3, d4] }
  | _ => none }
def FnExactBlendPoseWrongFalsely : Prop := fnExactBlendPoseRow.holds Try.pinned (OpenSpec.ofChange fnExactBlendPoseWrong)

/-- 'laws.FnExactMarksCrossed': WHATEVER THE INPUT: true; the input reads as it did. -/
def fnExactMarksCrossedSpec : ChangeSpec := { name := "fnExactMarksCrossed", fn := fun _ => fun
  | [d1, d2, d3] => { results := [.lit (.bool true)], args := [d1, d2, d3] }
  | _ => none }
def fnExactMarksCrossedRow : OpenClaim := { program := "ytpnplfngglfpoaa", sum := "61ae1413dbffb7cf474231ca1c0bb971ff412d4787ec64c69a2e6dd8d78f9a31", func := "loop.example/g00064/laws.FnExactMarksCrossed", spec := "fnExactMarksCrossed", inPlace := ["internal/bytealg.abigen_runtime_cmpstring"], apart := false }
def FnExactMarksCrossedSaid : Prop := fnExactMarksCrossedRow.holds Try.pinned (OpenSpec.ofChange fnExactMarksCrossedSpec)

/-- ITS FALSE NEIGHBOUR: 'it returns false'. Refute it at one input. -/
def fnExactMarksCrossedWrong : ChangeSpec := { name := "fnExactMarksCrossed", fn := fun _ => fun
  | [d1, d2, d3] => { results := [.lit (.bool false)], args := [d1, d2, d3] }
  | _ => none }
def FnExactMarksCrossedWrongFalsely : Prop := fnExactMarksCrossedRow.holds Try.pinned (OpenSpec.ofChange fnExactMarksCrossedWrong)

/- THE SECOND FORM. 'bulk': how many values and letters a reading holds, each counted each time it is reached (what is shared counts as often as it is met; a slice's spare places count too). A statement '..UptoSaid' is the law's where the arguments, and the package variables that the reading takes, are together of bulk at most 1048576: NARROWER than '..Said'. Prove '..Said' where nothing that the law and all that it calls make is longer than what came in: it says more and counts as full. Else prove '..UptoSaid'. A law counts once. -/
mutual
def uptoBulk {H : Type} : DataW H → Nat
  | .lit (.string bytes) => bytes.length + 1
  | .lit _ => 1
  | .nil => 1
  | .ptr d => uptoBulk d + 1
  | .slice elems spare => uptoBulkAll elems + uptoBulkAll spare + 1
  | .agg parts => uptoBulkAll parts + 1
  | .iface _ d => uptoBulk d + 1
  | .map entries => uptoBulkEntries entries + 1
  | .held _ => 1
def uptoBulkAll {H : Type} : List (DataW H) → Nat
  | [] => 0
  | d :: r => uptoBulk d + uptoBulkAll r
def uptoBulkEntries {H : Type} : List (Lit × DataW H) → Nat
  | [] => 0
  | x :: r => uptoBulkEntry x + uptoBulkEntries r
def uptoBulkEntry {H : Type} : Lit × DataW H → Nat
  | (.string bytes, d) => bytes.length + uptoBulk d + 1
  | (_, d) => uptoBulk d + 1
 end
def uptoSmall : (H : Type) → List (DataW H) → Bool := fun _ ds => decide (uptoBulkAll ds ≤ 1048576)
def OpenSpec.upto (s : _root_.Go.ChangeSpec) : _root_.Go.OpenSpec := { _root_.Go.OpenSpec.ofChange s with cond := some uptoSmall }

/-- 'laws.FnKeys', WHERE WHAT IT READS IS OF BULK AT MOST 1048576: true; the input reads as it did. -/
def fnKeysUptoRow : OpenClaim := { program := "ytpnplfngglfpoaa", sum := "61ae1413dbffb7cf474231ca1c0bb971ff412d4787ec64c69a2e6dd8d78f9a31", func := "loop.example/g00064/laws.FnKeys", spec := "fnKeys", unfollowed := true, recurses := true, apart := false, narrowed := true }
def FnKeysUptoSaid : Prop := fnKeysUptoRow.holds Try.pinned (OpenSpec.upto fnKeysSpec)

/-- 'laws.FnExactGoodClip', WHERE WHAT IT READS IS OF BULK AT MOST 1048576: true; the input reads as it did. -/
def fnExactGoodClipUptoRow : OpenClaim := { program := "ytpnplfngglfpoaa", sum := "61ae1413dbffb7cf474231ca1c0bb971ff412d4787ec64c69a2e6dd8d78f9a31", func := "loop.example/g00064/laws.FnExactGoodClip", spec := "fnExactGoodClip", inPlace := ["internal/bytealg.abigen_runtime_cmpstring"], apart := false, narrowed := true }
def FnExactGoodClipUptoSaid : Prop := fnExactGoodClipUptoRow.holds Try.pinned (OpenSpec.upto fnExactGoodClipSpec)

/-- 'laws.FnExactValueAt', WHERE WHAT IT READS IS OF BULK AT MOST 1048576: true; the input reads as it did. -/
def fnExactValueAtUptoRow : OpenClaim := { program := "ytpnplfngglfpoaa", sum := "61ae1413dbffb7cf474231ca1c0bb971ff412d4787ec64c69a2e6dd8d78f9a31", func := "loop.example/g00064/laws.FnExactValueAt", spec := "fnExactValueAt", unfollowed := true, recurses := true, apart := false, narrowed := true }
def FnExactValueAtUptoSaid : Prop := fnExactValueAtUptoRow.holds Try.pinned (OpenSpec.upto fnExactValueAtSpec)

/-- 'laws.FnExactFewestKeys', WHERE WHAT IT READS IS OF BULK AT MOST 1048576: true; the input reads as it did. -/
def fnExactFewestKeysUptoRow : OpenClaim := { program := "ytpnplfngglfpoaa", sum := "61ae1413dbffb7cf474231ca1c0bb971ff412d4787ec64c69a2e6dd8d78f9a31", func := "loop.example/g00064/laws.FnExactFewestKeys", spec := "fnExactFewestKeys", apart := false, narrowed := true }
def FnExactFewestKeysUptoSaid : Prop := fnExactFewestKeysUptoRow.holds Try.pinned (OpenSpec.upto fnExactFewestKeysSpec)

/-- 'laws.FnExactWorstOf', WHERE WHAT IT READS IS OF BULK AT MOST 1048576: true; the input reads as it did. -/
def fnExactWorstOfUptoRow : OpenClaim := { program := "ytpnplfngglfpoaa", sum := "61ae1413dbffb7cf474231ca1c0bb971ff412d4787ec64c69a2e6dd8d78f9a31", func := "loop.example/g00064/laws.FnExactWorstOf", spec := "fnExactWorstOf", unfollowed := true, recurses := true, apart := false, narrowed := true }
def FnExactWorstOfUptoSaid : Prop := fnExactWorstOfUptoRow.holds Try.pinned (OpenSpec.upto fnExactWorstOfSpec)

/-- 'laws.FnExactPoseAt', WHERE WHAT IT READS IS OF BULK AT MOST 1048576: true; the input reads as it did. -/
def fnExactPoseAtUptoRow : OpenClaim := { program := "ytpnplfngglfpoaa", sum := "61ae1413dbffb7cf474231ca1c0bb971ff412d4787ec64c69a2e6dd8d78f9a31", func := "loop.example/g00064/laws.FnExactPoseAt", spec := "fnExactPoseAt", inPlace := ["internal/bytealg.abigen_runtime_cmpstring"], unfollowed := true, recurses := true, apart := false, narrowed := true }
def FnExactPoseAtUptoSaid : Prop := fnExactPoseAtUptoRow.holds Try.pinned (OpenSpec.upto fnExactPoseAtSpec)

/-- 'laws.FnExactBlendPose', WHERE WHAT IT READS IS OF BULK AT MOST 1048576: true; the input reads as it did. -/
def fnExactBlendPoseUptoRow : OpenClaim := { program := "ytpnplfngglfpoaa", sum := "61ae1413dbffb7cf474231ca1c0bb971ff412d4787ec64c69a2e6dd8d78f9a31", func := "loop.example/g00064/laws.FnExactBlendPose", spec := "fnExactBlendPose", apart := false, narrowed := true }
def FnExactBlendPoseUptoSaid : Prop := fnExactBlendPoseUptoRow.holds Try.pinned (OpenSpec.upto fnExactBlendPoseSpec)

/-- 'laws.FnExactMarksCrossed', WHERE WHAT IT READS IS OF BULK AT MOST 1048576: true; the input reads as it did. -/
def fnExactMarksCrossedUptoRow : OpenClaim := { program := "ytpnplfngglfpoaa", sum := "61ae1413dbffb7cf474231ca1c0bb971ff412d4787ec64c69a2e6dd8d78f9a31", func := "loop.example/g00064/laws.FnExactMarksCrossed", spec := "fnExactMarksCrossed", inPlace := ["internal/bytealg.abigen_runtime_cmpstring"], apart := false, narrowed := true }
def FnExactMarksCrossedUptoSaid : Prop := fnExactMarksCrossedUptoRow.holds Try.pinned (OpenSpec.upto fnExactMarksCrossedSpec)

end Rows
end Go.Proofs.Ytpnplfngglfpoaa
