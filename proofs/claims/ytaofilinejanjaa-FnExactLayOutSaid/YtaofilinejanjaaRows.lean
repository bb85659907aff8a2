/-
  No cell of these rows narrows 'for every input' (looked for: loops, veiled, ifaces, maps, wideKeys, modest, calm, conditions, laid).
  DERIVED. THE GIVEN ROWS OF THIS SEAT. 5 by the template 'for every input the law returns true; each argument reads behind the call as it read before'; 0 by the template 'total and deterministic' (their statements: YtaofilinejanjaaTotals.lean).
  GIVEN WITH THE SEED: the statements are not yours to turn. If you find one false, say at which input.
  Laid BY PROGRAM, IN A SANDBOX (cutbox-rows.mjs): the forced cells as the released guide's own fill.sh prints them over the translation 2b0603819ac0b07b… (all of the seat's roots in one cut). By AI agents, Wed Nov 11 2026. No macro, syntax, notation, axiom, sorry.
-/
import Derived.Test.YtaofilinejanjaaChecked
import GoSem.Claim
import GoSem.ClaimJoined
import GoSem.ClaimMapViews
import Derived.JoinedTies
import Derived.KernelRfl
namespace Go.Proofs.Ytaofilinejanjaa
/- THE CELL 'sum', in the pinned program and in every row, IS THE sha256 OF THE DUMP (.gsa) THAT YtaofilinejanjaaProg.lean LOADS. Nothing in Lean hashes anything: it is a label: what it is worth is what the hold of that sum in a sandbox is worth. -/
noncomputable def Try.pinned : Pinned := { name := "ytaofilinejanjaa", sum := "2b0603819ac0b07ba5cc8eef2e632405328bf3d069c1ddf3a86e678c23e9c366", checked := Try.checked }
namespace Rows
def none {H : Type} : Left H := { results := [], args := [] }

/-- 'laws.FnExactGoodBoxes': WHATEVER THE INPUT: true; the input reads as it did. -/
def fnExactGoodBoxesSpec : ChangeSpec := { name := "fnExactGoodBoxes", fn := fun _ => fun
  | [d] => { results := [.lit (.bool true)], args := [d] }
  | _ => none }
def fnExactGoodBoxesRow : OpenClaim := { program := "ytaofilinejanjaa", sum := "2b0603819ac0b07ba5cc8eef2e632405328bf3d069c1ddf3a86e678c23e9c366", func := "loop.example/g00064/laws.FnExactGoodBoxes", spec := "fnExactGoodBoxes", apart := false }
def FnExactGoodBoxesSaid : Prop := fnExactGoodBoxesRow.holds Try.pinned (OpenSpec.ofChange fnExactGoodBoxesSpec)

/-- ITS FALSE NEIGHBOUR: 'it returns false'. Refute it at one input. -/
def fnExactGoodBoxesWrong : ChangeSpec := { name := "fnExactGoodBoxes", fn := fun _ => fun
  | [d] => { results := [.lit (.bool false)], args := [d] }
  | _ => none }
def FnExactGoodBoxesWrongFalsely : Prop := fnExactGoodBoxesRow.holds Try.pinned (OpenSpec.ofChange fnExactGoodBoxesWrong)

/-- 'laws.FnExactShareRoom': WHATEVER THE INPUT: true; the input reads as it did. -/
def fnExactShareRoomSpec : ChangeSpec := { name := "fnExactShareRoom", fn := fun _ => fun
  | [d1, d2, d3] => { results := [.lit (.bool true)], args := [d1, d2, d3] }
  | _ => none }
def fnExactShareRoomRow : OpenClaim := { program := "ytaofilinejanjaa", sum := "2b0603819ac0b07ba5cc8eef2e632405328bf3d069c1ddf3a86e678c23e9c366", func := "loop.example/g00064/laws.FnExactShareRoom", spec := "fnExactShareRoom", unfollowed := true, recurses := true, apart := false }
def FnExactShareRoomSaid : Prop := fnExactShareRoomRow.holds Try.pinned (OpenSpec.ofChange fnExactShareRoomSpec)

/-- ITS FALSE NEIGHBOUR: 'it returns false'. Refute it at one input. -/
def fnExactShareRoomWrong : ChangeSpec := { name := "fnExactShareRoom", fn := fun _ => fun
  | [d1, d2, d3] => { results := [.lit (.bool false)], args := [d1, d2, d3] }
  | _ => none }
def FnExactShareRoomWrongFalsely : Prop := fnExactShareRoomRow.holds Try.pinned (OpenSpec.ofChange fnExactShareRoomWrong)

/-- 'laws.FnExactLayOut': WHATEVER THE INPUT: true; the input reads as it did. -/
def fnExactLayOutSpec : ChangeSpec := { name := "fnExactLayOut", fn := fun _ => fun
  | [d1, d2, d3] => { results := [.lit (.bool true)], args := [d1, d2, d3] }
  | _ => none }
def fnExactLayOutRow : OpenClaim := { program := "ytaofilinejanjaa", sum := "2b0603819ac0b07ba5cc8eef2e632405328bf3d069c1ddf3a86e678c23e9c366", func := "loop.example/g00064/laws.FnExactLayOut", spec := "fnExactLayOut", unfollowed := true, recurses := true, apart := false }
def FnExactLayOutSaid : Prop := fnExactLayOutRow.holds Try.pinned (OpenSpec.ofChange fnExactLayOutSpec)

/-- ITS FALSE NEIGHBOUR: 'it returns false'. Refute it at one input. -/
def fnExactLayOutWrong : ChangeSpec := { name := "fnExactLayOut", fn := fun _ => fun
  | [d1, d2, d3] => { results := [.lit (.bool false)], args := [d1, d2, d3] }
  | _ => none }
def FnExactLayOutWrongFalsely : Prop := fnExactLayOutRow.holds Try.pinned (OpenSpec.ofChange fnExactLayOutWrong)

/-- 'laws.FnExactRunesOf': WHATEVER THE INPUT: true; the input reads as it did. -/
def fnExactRunesOfSpec : ChangeSpec := { name := "fnExactRunesOf", fn := fun _ => fun
  | [d] => { results := [.lit (.bool true)], args := [d] }
  | _ => none }
def fnExactRunesOfRow : OpenClaim := { program := "ytaofilinejanjaa", sum := "2b0603819ac0b07ba5cc8eef2e632405328bf3d069c1ddf3a86e678c23e9c366", func := "loop.example/g00064/laws.FnExactRunesOf", spec := "fnExactRunesOf", apart := false }
def FnExactRunesOfSaid : Prop := fnExactRunesOfRow.holds Try.pinned (OpenSpec.ofChange fnExactRunesOfSpec)

/-- ITS FALSE NEIGHBOUR: 'it returns false'. Refute it at one input. -/
def fnExactRunesOfWrong : ChangeSpec := { name := "fnExactRunesOf", fn := fun _ => fun
  | [d] => { results := [.lit (.bool false)], args := [d] }
  | _ => none }
def FnExactRunesOfWrongFalsely : Prop := fnExactRunesOfRow.holds Try.pinned (OpenSpec.ofChange fnExactRunesOfWrong)

/-- 'laws.FnExactNextFocus': WHATEVER THE INPUT: true; the input reads as it did. -/
def fnExactNextFocusSpec : ChangeSpec := { name := "fnExactNextFocus", fn := fun _ => fun
  | [d1, d2, d3] => { results := [.lit (.bool true)], args := [d1, d2, d3] }
  | _ => none }
def fnExactNextFocusRow : OpenClaim := { program := "ytaofilinejanjaa", sum := "2b0603819ac0b07ba5cc8eef2e632405328bf3d069c1ddf3a86e678c23e9c366", func := "loop.example/g00064/laws.FnExactNextFocus", spec := "fnExactNextFocus", apart := false }
def FnExactNextFocusSaid : Prop := fnExactNextFocusRow.holds Try.pinned (OpenSpec.ofChange fnExactNextFocusSpec)

/-- ITS FALSE NEIGHBOUR: 'it returns false'. Refute it at one input. -/
def fnExactNextFocusWrong : ChangeSpec := { name := "fnExactNextFocus", fn := fun _ => fun
  | [d1, d2, d3] => { results := [.lit (.bool false)], args := [d1, d2, d3] }
  | _ => none }
def FnExactNextFocusWrongFalsely : Prop := fnExactNextFocusRow.holds Try.pinned (OpenSpec.ofChange fnExactNextFocusWrong)

/- THE SECOND FORM. 'bulk': how many values and letters a reading holds, each counted each time it is reached (what is shared counts as often as it is met; a slice's spare places count too). A statement '..UptoSaid' is the law's where the arguments, and the package variables that the reading takes, are together of bulk at most 1048576: NARROWER than '..Said'. Prove '..Said' where nothing that the law and all that it calls make is longer than what came in: it says more and counts as full. Else prove '..UptoSaid'. A law counts once. -/
mutual
def uptoBulk {H : Type} : DataW H → Nat
  | .lit (.string bytes) => bytes.length + 1
  | .lit _ => 1
  | .nil => 1
  | .ptr d => uptoBulk d + 1
  | .slice elems spare => uptoBulkAll elems + uptoBulkAll spare + 1
  | .agg parts => uptoBulkAll parts + 1
  | .iface _ d => uptoBulk d + 1
  | .map entries => uptoBulkEntries entries + 1
  | .held _ => 1
def uptoBulkAll {H : Type} : List (DataW H) → Nat
  | [] => 0
  | d :: r => uptoBulk d + uptoBulkAll r
def uptoBulkEntries {H : Type} : List (Lit × DataW H) → Nat
  | [] => 0
  | x :: r => uptoBulkEntry x + uptoBulkEntries r
def uptoBulkEntry {H : Type} : Lit × DataW H → Nat
  | (.string bytes, d) => bytes.length + uptoBulk d + 1
  | (_, d) => uptoBulk d + 1
 end
def uptoSmall : (H : Type) → List (DataW H) → Bool := fun _ ds => decide (uptoBulkAll ds ≤ 1048576)
def OpenSpec.upto (s : _root_.Go.ChangeSpec) : _root_.Go.OpenSpec := { _root_.Go.OpenSpec.ofChange s with cond := some uptoSmall }

/-- 'laws.FnExactGoodBoxes', WHERE WHAT IT READS IS OF BULK AT MOST 1048576: true; the input reads as it did. -/
def fnExactGoodBoxesUptoRow : OpenClaim := { program := "ytaofilinejanjaa", sum := "2b0603819ac0b07ba5cc8eef2e632405328bf3d069c1ddf3a86e678c23e9c366", func := "loop.example/g00064/laws.FnExactGoodBoxes", spec := "fnExactGoodBoxes", apart := false, narrowed := true }
def FnExactGoodBoxesUptoSaid : Prop := fnExactGoodBoxesUptoRow.holds Try.pinned (OpenSpec.upto fnExactGoodBoxesSpec)

/-- 'laws.FnExactShareRoom', WHERE WHAT IT READS IS OF BULK AT MOST 1048576: true; the input reads as it did. -/
def fnExactShareRoomUptoRow : OpenClaim := { program := "ytaofilinejanjaa", sum := "2b0603819ac0b07ba5cc8eef2e632405328bf3d069c1ddf3a86e678c23e9c366", func := "loop.example/g00064/laws.FnExactShareRoom", spec := "fnExactShareRoom", unfollowed := true, recurses := true, apart := false, narrowed := true }
def FnExactShareRoomUptoSaid : Prop := fnExactShareRoomUptoRow.holds Try.pinned (OpenSpec.upto fnExactShareRoomSpec)

/-- 'laws.FnExactLayOut', WHERE WHAT IT READS IS OF BULK AT MOST 1048576: true; the input reads as it did. -/
def fnExactLayOutUptoRow : OpenClaim := { program := "ytaofilinejanjaa", sum := "2b0603819ac0b07ba5cc8eef2e632405328bf3d069c1ddf3a86e678c23e9c366", func := "loop.example/g00064/laws.FnExactLayOut", spec := "fnExactLayOut", unfollowed := true, recurses := true, apart := false, narrowed := true }
def FnExactLayOutUptoSaid : Prop := fnExactLayOutUptoRow.holds Try.pinned (OpenSpec.upto fnExactLayOutSpec)

/-- 'laws.FnExactRunesOf', WHERE WHAT IT READS IS OF BULK AT MOST 1048576: true; the input reads as it did. -/
def fnExactRunesOfUptoRow : OpenClaim := { program := "ytaofilinejanjaa", sum := "2b0603819ac0b07ba5cc8eef2e632405328bf3d069c1ddf3a86e678c23e9c366", func := "loop.example/g00064/laws.FnExactRunesOf", spec := "fnExactRunesOf", apart := false, narrowed := true }
def FnExactRunesOfUptoSaid : Prop := fnExactRunesOfUptoRow.holds Try.pinned (OpenSpec.upto fnExactRunesOfSpec)

/-- 'laws.FnExactNextFocus', WHERE WHAT IT READS IS OF BULK AT MOST 1048576: true; the input reads as it did. -/
def fnExactNextFocusUptoRow : OpenClaim := { program := "ytaofilinejanjaa", sum := "2b0603819ac0b07ba5cc8eef2e632405328bf3d069c1ddf3a86e678c23e9c366", func := "loop.example/g00064/laws.FnExactNextFocus", spec := "fnExactNextFocus", apart := false, narrowed := true }
def FnExactNextFocusUptoSaid : Prop := fnExactNextFocusUptoRow.holds Try.pinned (OpenSpec.upto fnExactNextFocusSpec)

end Rows
end Go.Proofs.Ytaofilinejanjaa
