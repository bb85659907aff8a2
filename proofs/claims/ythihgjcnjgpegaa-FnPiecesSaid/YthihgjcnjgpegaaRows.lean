/-
  No cell of these rows narrows 'for every input' (looked for: loops, veiled, ifaces, maps, wideKeys, modest, calm, conditions, laid).
  DERIVED. THE GIVEN ROWS OF THIS SEAT. 7 by the template 'for every input the law returns true; each argument reads behind the call as it read before'; 0 by the template 'total and deterministic' (their statements: YthihgjcnjgpegaaTotals.lean).
  GIVEN WITH THE SEED: the statements are not yours to turn. If you find one false, say at which input.
  Laid BY PROGRAM, IN A SANDBOX (cutbox-rows.mjs): the forced cells as the released guide's own fill.sh prints them over the translation 3a39929cadd68883… (all of the seat's roots in one cut). By AI agents, Wed Nov 11 2026. No macro, syntax, notation, axiom, sorry.
-/
import Derived.Test.YthihgjcnjgpegaaChecked
import GoSem.Claim
import GoSem.ClaimJoined
import GoSem.ClaimMapViews
import Derived.JoinedTies
import Derived.KernelRfl
namespace Go.Proofs.Ythihgjcnjgpegaa
/- THE CELL 'sum', in the pinned program and in every row, IS THE sha256 OF THE DUMP (.gsa) THAT YthihgjcnjgpegaaProg.lean LOADS. Nothing in Lean hashes anything: it is a label: what it is worth is what the hold of that sum in a sandbox is worth. -/
noncomputable def Try.pinned : Pinned := { name := "ythihgjcnjgpegaa", sum := "3a39929cadd688832ff2895aa2d09912988145b606d3d3aa829f49819c09dd99", checked := Try.checked }
namespace Rows
def none {H : Type} : Left H := { results := [], args := [] }

/-- 'laws.FnPieces': WHATEVER THE INPUT: true; the input reads as it did. -/
def fnPiecesSpec : ChangeSpec := { name := "fnPieces", fn := fun _ => fun
  | [d] => { results := [.lit (.bool true)], args := [d] }
  | _ => none }
def fnPiecesRow : OpenClaim := { program := "ythihgjcnjgpegaa", sum := "3a39929cadd688832ff2895aa2d09912988145b606d3d3aa829f49819c09dd99", func := "loop.example/g00064/laws.FnPieces", spec := "fnPieces", unfollowed := true, recurses := true, apart := false }
def FnPiecesSaid : Prop := fnPiecesRow.holds Try.pinned (OpenSpec.ofChange fnPiecesSpec)

/-- ITS FALSE NEIGHBOUR: 'it returns false'. Refute it at one input. -/
def fnPiecesWrong : ChangeSpec := { name := "fnPieces", fn := fun _ => fun
  | [d] => { results := [.lit (.bool false)], args := [d] }
  | _ => none }
def FnPiecesWrongFalsely : Prop := fnPiecesRow.holds Try.pinned (OpenSpec.ofChange fnPiecesWrong)

/-- 'laws.FnExactGoodClock': WHATEVER THE INPUT: true; the input reads as it did. -/
def fnExactGoodClockSpec : ChangeSpec := { name := "fnExactGoodClock", fn := fun _ => fun
  | [d] => { results := [.lit (.bool true)], args := [d] }
  | _ => none }
def fnExactGoodClockRow : OpenClaim := { program := "ythihgjcnjgpegaa", sum := "3a39929cadd688832ff2895aa2d09912988145b606d3d3aa829f49819c09dd99", func := "loop.example/g00064/laws.FnExactGoodClock", spec := "fnExactGoodClock", apart := false }
def FnExactGoodClockSaid : Prop := fnExactGoodClockRow.holds Try.pinned (OpenSpec.ofChange fnExactGoodClockSpec)

/-- ITS FALSE NEIGHBOUR: 'it returns false'. Refute it at one input. -/
def fnExactGoodClockWrong : ChangeSpec := { name := "fnExactGoodClock", fn := fun _ => fun
  | [d] => { results := [.lit (.bool false)], args := [d] }
  | _ => none }
def FnExactGoodClockWrongFalsely : Prop := fnExactGoodClockRow.holds Try.pinned (OpenSpec.ofChange fnExactGoodClockWrong)

/-- 'laws.FnExactAddTimer': WHATEVER THE INPUT: true; the input reads as it did. -/
def fnExactAddTimerSpec : ChangeSpec := { name := "fnExactAddTimer", fn := fun _ => fun
  | [d1, d2] => { results := [.lit (.bool true)], args := [d1, d2] }
  | _ => none }
def fnExactAddTimerRow : OpenClaim := { program := "ythihgjcnjgpegaa", sum := "3a39929cadd688832ff2895aa2d09912988145b606d3d3aa829f49819c09dd99", func := "loop.example/g00064/laws.FnExactAddTimer", spec := "fnExactAddTimer", inPlace := ["slices.overlaps[loop.example/g00064/impl.Timer]"], unfollowed := true, recurses := true, apart := false }
def FnExactAddTimerSaid : Prop := fnExactAddTimerRow.holds Try.pinned (OpenSpec.ofChange fnExactAddTimerSpec)

/-- ITS FALSE NEIGHBOUR: 'it returns false'. Refute it at one input. -/
def fnExactAddTimerWrong : ChangeSpec := { name := "fnExactAddTimer", fn := fun _ => fun
  | [d1, d2] => { results := [.lit (.bool false)], args := [d1, d2] }
  | _ => none }
def FnExactAddTimerWrongFalsely : Prop := fnExactAddTimerRow.holds Try.pinned (OpenSpec.ofChange fnExactAddTimerWrong)

/-- 'laws.FnExactDropTimer': WHATEVER THE INPUT: true; the input reads as it did. -/
def fnExactDropTimerSpec : ChangeSpec := { name := "fnExactDropTimer", fn := fun _ => fun
  | [d1, d2] => { results := [.lit (.bool true)], args := [d1, d2] }
  | _ => none }
def fnExactDropTimerRow : OpenClaim := { program := "ythihgjcnjgpegaa", sum := "3a39929cadd688832ff2895aa2d09912988145b606d3d3aa829f49819c09dd99", func := "loop.example/g00064/laws.FnExactDropTimer", spec := "fnExactDropTimer", unfollowed := true, recurses := true, apart := false }
def FnExactDropTimerSaid : Prop := fnExactDropTimerRow.holds Try.pinned (OpenSpec.ofChange fnExactDropTimerSpec)

/-- ITS FALSE NEIGHBOUR: 'it returns false'. Refute it at one input. -/
def fnExactDropTimerWrong : ChangeSpec := { name := "fnExactDropTimer", fn := fun _ => fun
  | [d1, d2] => { results := [.lit (.bool false)], args := [d1, d2] }
  | _ => none }
def FnExactDropTimerWrongFalsely : Prop := fnExactDropTimerRow.holds Try.pinned (OpenSpec.ofChange fnExactDropTimerWrong)

/-- 'laws.FnExactRunClock': WHATEVER THE INPUT: true; the input reads as it did. -/
def fnExactRunClockSpec : ChangeSpec := { name := "fnExactRunClock", fn := fun _ => fun
  | [d1, d2] => { results := [.lit (.bool true)], args := [d1, d2] }
  | _ => none }
def fnExactRunClockRow : OpenClaim := { program := "ythihgjcnjgpegaa", sum := "3a39929cadd688832ff2895aa2d09912988145b606d3d3aa829f49819c09dd99", func := "loop.example/g00064/laws.FnExactRunClock", spec := "fnExactRunClock", unfollowed := true, recurses := true, apart := false }
def FnExactRunClockSaid : Prop := fnExactRunClockRow.holds Try.pinned (OpenSpec.ofChange fnExactRunClockSpec)

/-- ITS FALSE NEIGHBOUR: 'it returns false'. Refute it at one input. -/
def fnExactRunClockWrong : ChangeSpec := { name := "fnExactRunClock", fn := fun _ => fun
  | [d1, d2] => { results := [.lit (.bool false)], args := [d1, d2] }
  | _ => none }
def FnExactRunClockWrongFalsely : Prop := fnExactRunClockRow.holds Try.pinned (OpenSpec.ofChange fnExactRunClockWrong)

/-- 'laws.FnExactEaseAt': WHATEVER THE INPUT: true; the input reads as it did. -/
def fnExactEaseAtSpec : ChangeSpec := { name := "fnExactEaseAt", fn := fun _ => fun
  | [d1, d2] => { results := [.lit (.bool true)], args := [d1, d2] }
  | _ => none }
def fnExactEaseAtRow : OpenClaim := { program := "ythihgjcnjgpegaa", sum := "3a39929cadd688832ff2895aa2d09912988145b606d3d3aa829f49819c09dd99", func := "loop.example/g00064/laws.FnExactEaseAt", spec := "fnExactEaseAt", apart := false }
def FnExactEaseAtSaid : Prop := fnExactEaseAtRow.holds Try.pinned (OpenSpec.ofChange fnExactEaseAtSpec)

/-- ITS FALSE NEIGHBOUR: 'it returns false'. Refute it at one input. -/
def fnExactEaseAtWrong : ChangeSpec := { name := "fnExactEaseAt", fn := fun _ => fun
  | [d1, d2] => { results := [.lit (.bool false)], args := [d1, d2] }
  | _ => none }
def FnExactEaseAtWrongFalsely : Prop := fnExactEaseAtRow.holds Try.pinned (OpenSpec.ofChange fnExactEaseAtWrong)

/-- 'laws.FnExactTweenAt': WHATEVER THE INPUT: true; the input reads as it did. -/
def fnExactTweenAtSpec : ChangeSpec := { name := "fnExactTweenAt", fn := fun _ => fun
  | [d1, d2, d3, d4, d5, d6] => { results := [.lit (.bool true)], args := [d1, d2, d3, d4, d5, d6] }
  | _ => none }
def fnExactTweenAtRow : OpenClaim := { program := "ythihgjcnjgpegaa", sum := "3a39929cadd688832ff2895aa2d09912988145b606d3d3aa829f49819c09dd99", func := "loop.example/g00064/laws.FnExactTweenAt", spec := "fnExactTweenAt", apart := false }
def FnExactTweenAtSaid : Prop := fnExactTweenAtRow.holds Try.pinned (OpenSpec.ofChange fnExactTweenAtSpec)

/-- ITS FALSE NEIGHBOUR: 'it returns false'. Refute it at one input. -/
def fnExactTweenAtWrong : ChangeSpec := { name := "fnExactTweenAt", fn := fun _ => fun
  | [d1, d2, d3, d4, d5, d6] => { results := [.lit (.bool false)], args := [d1, d2, d3, d4, d5, d6] }
  | _ => none }
def FnExactTweenAtWrongFalsely : Prop := fnExactTweenAtRow.holds Try.pinned (OpenSpec.ofChange fnExactTweenAtWrong)

/- THE SECOND FORM. 'bulk': how many values and letters a reading holds, each counted each time it is reached (what is shared counts as often as it is met; a slice's spare places count too). A statement '..UptoSaid' is the law's where the arguments, and the package variables that the reading takes, are together of bulk at most 1048576: NARROWER than '..Said'. Prove '..Said' where nothing that the law and all that it calls make is longer than what came in: it says more and counts as full. Else prove '..UptoSaid'. A law counts once. -/
mutual
def uptoBulk {H : Type} : DataW H → Nat
  | .lit (.string bytes) => bytes.length + 1
  | .lit _ => 1
  | .nil => 1
  | .ptr d => uptoBulk d + 1
  | .slice elems spare => uptoBulkAll elems + uptoBulkAll spare + 1
  | .agg parts => uptoBulkAll parts + 1
  | .iface _ d => uptoBulk d + 1
  | .map entries => uptoBulkEntries entries + 1
  | .held _ => 1
def uptoBulkAll {H : Type} : List (DataW H) → Nat
  | [] => 0
  | d :: r => uptoBulk d + uptoBulkAll r
def uptoBulkEntries {H : Type} : List (Lit × DataW H) → Nat
  | [] => 0
  | x :: r => uptoBulkEntry x + uptoBulkEntries r
def uptoBulkEntry {H : Type} : Lit × DataW H → Nat
  | (.string bytes, d) => bytes.length + uptoBulk d + 1
  | (_, d) => uptoBulk d + 1
 end
def uptoSmall : (H : Type) → List (DataW H) → Bool := fun _ ds => decide (uptoBulkAll ds ≤ 1048576)
def OpenSpec.upto (s : _root_.Go.ChangeSpec) : _root_.Go.OpenSpec := { _root_.Go.OpenSpec.ofChange s with cond := some uptoSmall }

/-- 'laws.FnPieces', WHERE WHAT IT READS IS OF BULK AT MOST 1048576: true; the input reads as it did. -/
def fnPiecesUptoRow : OpenClaim := { program := "ythihgjcnjgpegaa", sum := "3a39929cadd688832ff2895aa2d09912988145b606d3d3aa829f49819c09dd99", func := "loop.example/g00064/laws.FnPieces", spec := "fnPieces", unfollowed := true, recurses := true, apart := false, narrowed := true }
def FnPiecesUptoSaid : Prop := fnPiecesUptoRow.holds Try.pinned (OpenSpec.upto fnPiecesSpec)

/-- 'laws.FnExactGoodClock', WHERE WHAT IT READS IS OF BULK AT MOST 1048576: true; the input reads as it did. -/
def fnExactGoodClockUptoRow : OpenClaim := { program := "ythihgjcnjgpegaa", sum := "3a39929cadd688832ff2895aa2d09912988145b606d3d3aa829f49819c09dd99", func := "loop.example/g00064/laws.FnExactGoodClock", spec := "fnExactGoodClock", apart := false, narrowed := true }
def FnExactGoodClockUptoSaid : Prop := fnExactGoodClockUptoRow.holds Try.pinned (OpenSpec.upto fnExactGoodClockSpec)

/-- 'laws.FnExactAddTimer', WHERE WHAT IT READS IS OF BULK AT MOST 1048576: true; the input reads as it did. -/
def fnExactAddTimerUptoRow : OpenClaim := { program := "ythihgjcnjgpegaa", sum := "3a39929cadd688832ff2895aa2d09912988145b606d3d3aa829f49819c09dd99", func := "loop.example/g00064/laws.FnExactAddTimer", spec := "fnExactAddTimer", inPlace := ["slices.overlaps[loop.example/g00064/impl.Timer]"], unfollowed := true, recurses := true, apart := false, narrowed := true }
def FnExactAddTimerUptoSaid : Prop := fnExactAddTimerUptoRow.holds Try.pinned (OpenSpec.upto fnExactAddTimerSpec)

/-- 'laws.FnExactDropTimer', WHERE WHAT IT READS IS OF BULK AT MOST 1048576: true; the input reads as it did. -/
def fnExactDropTimerUptoRow : OpenClaim := { program := "ythihgjcnjgpegaa", sum := "3a39929cadd688832ff2895aa2d09912988145b606d3d3aa829f49819c09dd99", func := "loop.example/g00064/laws.FnExactDropTimer", spec := "fnExactDropTimer", unfollowed := true, recurses := true, apart := false, narrowed := true }
def FnExactDropTimerUptoSaid : Prop := fnExactDropTimerUptoRow.holds Try.pinned (OpenSpec.upto fnExactDropTimerSpec)

/-- 'laws.FnExactRunClock', WHERE WHAT IT READS IS OF BULK AT MOST 1048576: true; the input reads as it did. -/
def fnExactRunClockUptoRow : OpenClaim := { program := "ythihgjcnjgpegaa", sum := "3a39929cadd688832ff2895aa2d09912988145b606d3d3aa829f49819c09dd99", func := "loop.example/g00064/laws.FnExactRunClock", spec := "fnExactRunClock", unfollowed := true, recurses := true, apart := false, narrowed := true }
def FnExactRunClockUptoSaid : Prop := fnExactRunClockUptoRow.holds Try.pinned (OpenSpec.upto fnExactRunClockSpec)

/-- 'laws.FnExactEaseAt', WHERE WHAT IT READS IS OF BULK AT MOST 1048576: true; the input reads as it did. -/
def fnExactEaseAtUptoRow : OpenClaim := { program := "ythihgjcnjgpegaa", sum := "3a39929cadd688832ff2895aa2d09912988145b606d3d3aa829f49819c09dd99", func := "loop.example/g00064/laws.FnExactEaseAt", spec := "fnExactEaseAt", apart := false, narrowed := true }
def FnExactEaseAtUptoSaid : Prop := fnExactEaseAtUptoRow.holds Try.pinned (OpenSpec.upto fnExactEaseAtSpec)

/-- 'laws.FnExactTweenAt', WHERE WHAT IT READS IS OF BULK AT MOST 1048576: true; the input reads as it did. -/
def fnExactTweenAtUptoRow : OpenClaim := { program := "ythihgjcnjgpegaa", sum := "3a39929cadd688832ff2895aa2d09912988145b606d3d3aa829f49819c09dd99", func := "loop.example/g00064/laws.FnExactTweenAt", spec := "fnExactTweenAt", apart := false, narrowed := true }
def FnExactTweenAtUptoSaid : Prop := fnExactTweenAtUptoRow.holds Try.pinned (OpenSpec.upto fnExactTweenAtSpec)

end Rows
end Go.Proofs.Ythihgjcnjgpegaa
