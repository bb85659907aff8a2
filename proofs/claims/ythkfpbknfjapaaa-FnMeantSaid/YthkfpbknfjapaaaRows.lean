/-
  No cell of these rows narrows 'for every input' (looked for: loops, veiled, ifaces, maps, wideKeys, modest, calm, conditions, laid).
  DERIVED. THE GIVEN ROWS OF THIS SEAT. 7 by the template 'for every input the law returns true; each argument reads behind the call as it read before'; 0 by the template 'total and deterministic' (their statements: YthkfpbknfjapaaaTotals.lean).
  GIVEN WITH THE SEED: the statements are not yours to turn. If you find one false, say at which input.
  Laid BY PROGRAM, IN A SANDBOX (cutbox-rows.mjs): the forced cells as the released guide's own fill.sh prints them over the translation b3c4dc3ff0026aa0… (all of the seat's roots in one cut). By AI agents, Wed Nov 11 2026. No macro, syntax, notation, axiom, sorry.
-/
import Derived.Test.YthkfpbknfjapaaaChecked
import GoSem.Claim
import GoSem.ClaimJoined
import GoSem.ClaimMapViews
import Derived.JoinedTies
import Derived.KernelRfl
namespace Go.Proofs.Ythkfpbknfjapaaa
/- THE CELL 'sum', in the pinned program and in every row, IS THE sha256 OF THE DUMP (.gsa) THAT YthkfpbknfjapaaaProg.lean LOADS. Nothing in Lean hashes anything: it is a label: what it is worth is what the hold of that sum in a sandbox is worth. -/
noncomputable def Try.pinned : Pinned := { name := "ythkfpbknfjapaaa", sum := "b3c4dc3ff0026aa080f888261f4c8bb34ac9f91588266ec1583b749c49127613", checked := Try.checked }
namespace Rows
def none {H : Type} : Left H := { results := [], args := [] }

/-- 'laws.FnMeant': WHATEVER THE INPUT: true; the input reads as it did. -/
def fnMeantSpec : ChangeSpec := { name := "fnMeant", fn := fun _ => fun
  | [d] => { results := [.lit (.bool true)], args := [d] }
  | _ => none }
def fnMeantRow : OpenClaim := { program := "ythkfpbknfjapaaa", sum := "b3c4dc3ff0026aa080f888261f4c8bb34ac9f91588266ec1583b749c49127613", func := "loop.example/g00064/laws.FnMeant", spec := "fnMeant", unfollowed := true, recurses := true, apart := false }
def FnMeantSaid : Prop := fnMeantRow.holds Try.pinned (OpenSpec.ofChange fnMeantSpec)

/-- ITS FALSE NEIGHBOUR: 'it returns false'. Refute it at one input. -/
def fnMeantWrong : ChangeSpec := { name := "fnMeant", fn := fun _ => fun
  | [d] => { results := [.lit (.bool false)], args := [d] }
  | _ => none }
def FnMeantWrongFalsely : Prop := fnMeantRow.holds Try.pinned (OpenSpec.ofChange fnMeantWrong)

/-- 'laws.FnExactGoodBinds': WHATEVER THE INPUT: true; the input reads as it did. -/
def fnExactGoodBindsSpec : ChangeSpec := { name := "fnExactGoodBinds", fn := fun _ => fun
  | [d] => { results := [.lit (.bool true)], args := [d] }
  | _ => none }
def fnExactGoodBindsRow : OpenClaim := { program := "ythkfpbknfjapaaa", sum := "b3c4dc3ff0026aa080f888261f4c8bb34ac9f91588266ec1583b749c49127613", func := "loop.example/g00064/laws.FnExactGoodBinds", spec := "fnExactGoodBinds", unfollowed := true, recurses := true, apart := false }
def FnExactGoodBindsSaid : Prop := fnExactGoodBindsRow.holds Try.pinned (OpenSpec.ofChange fnExactGoodBindsSpec)

/-- ITS FALSE NEIGHBOUR: 'it returns false'. Refute it at one input. -/
def fnExactGoodBindsWrong : ChangeSpec := { name := "fnExactGoodBinds", fn := fun _ => fun
  | [d] => { results := [.lit (.bool false)], args := [d] }
  | _ => none }
def FnExactGoodBindsWrongFalsely : Prop := fnExactGoodBindsRow.holds Try.pinned (OpenSpec.ofChange fnExactGoodBindsWrong)

/-- 'laws.FnExactRebind': WHATEVER THE INPUT: true; the input reads as it did. -/
def fnExactRebindSpec : ChangeSpec := { name := "fnExactRebind", fn := fun _ => fun
  | [d1, d2, d3] => { results := [.lit (.bool true)], args := [d1, d2, d3] }
  | _ => none }
def fnExactRebindRow : OpenClaim := { program := "ythkfpbknfjapaaa", sum := "b3c4dc3ff0026aa080f888261f4c8bb34ac9f91588266ec1583b749c49127613", func := "loop.example/g00064/laws.FnExactRebind", spec := "fnExactRebind", unfollowed := true, recurses := true, apart := false }
def FnExactRebindSaid : Prop := fnExactRebindRow.holds Try.pinned (OpenSpec.ofChange fnExactRebindSpec)

/-- ITS FALSE NEIGHBOUR: 'it returns false'. Refute it at one input. -/
def fnExactRebindWrong : ChangeSpec := { name := "fnExactRebind", fn := fun _ => fun
  | [d1, d2, d3] => { results := [.lit (.bool false)], args := [d1, d2, d3] }
  | _ => none }
def FnExactRebindWrongFalsely : Prop := fnExactRebindRow.holds Try.pinned (OpenSpec.ofChange fnExactRebindWrong)

/-- 'laws.FnExactMeantBy': WHATEVER THE INPUT: true; the input reads as it did. -/
def fnExactMeantBySpec : ChangeSpec := { name := "fnExactMeantBy", fn := fun _ => fun
  | [d1, d2] => { results := [.lit (.bool true)], args := [d1, d2] }
  | _ => none }
def fnExactMeantByRow : OpenClaim := { program := "ythkfpbknfjapaaa", sum := "b3c4dc3ff0026aa080f888261f4c8bb34ac9f91588266ec1583b749c49127613", func := "loop.example/g00064/laws.FnExactMeantBy", spec := "fnExactMeantBy", unfollowed := true, recurses := true, apart := false }
def FnExactMeantBySaid : Prop := fnExactMeantByRow.holds Try.pinned (OpenSpec.ofChange fnExactMeantBySpec)

/-- ITS FALSE NEIGHBOUR: 'it returns false'. Refute it at one input. -/
def fnExactMeantByWrong : ChangeSpec := { name := "fnExactMeantBy", fn := fun _ => fun
  | [d1, d2] => { results := [.lit (.bool false)], args := [d1, d2] }
  | _ => none }
def FnExactMeantByWrongFalsely : Prop := fnExactMeantByRow.holds Try.pinned (OpenSpec.ofChange fnExactMeantByWrong)

/-- 'laws.FnExactHeldAt': WHATEVER THE INPUT: true; the input reads as it did. -/
def fnExactHeldAtSpec : ChangeSpec := { name := "fnExactHeldAt", fn := fun _ => fun
  | [d1, d2] => { results := [.lit (.bool true)], args := [d1, d2] }
  | _ => none }
def fnExactHeldAtRow : OpenClaim := { program := "ythkfpbknfjapaaa", sum := "b3c4dc3ff0026aa080f888261f4c8bb34ac9f91588266ec1583b749c49127613", func := "loop.example/g00064/laws.FnExactHeldAt", spec := "fnExactHeldAt", unfollowed := true, recurses := true, apart := false }
def FnExactHeldAtSaid : Prop := fnExactHeldAtRow.holds Try.pinned (OpenSpec.ofChange fnExactHeldAtSpec)

/-- ITS FALSE NEIGHBOUR: 'it returns false'. Refute it at one input. -/
def fnExactHeldAtWrong : ChangeSpec := { name := "fnExactHeldAt", fn := fun _ => fun
  | [d1, d2] => { results := [.lit (.bool false)], args := [d1, d2] }
  | _ => none }
def FnExactHeldAtWrongFalsely : Prop := fnExactHeldAtRow.holds Try.pinned (OpenSpec.ofChange fnExactHeldAtWrong)

/-- 'laws.FnExactBuffered': WHATEVER THE INPUT: true; the input reads as it did. -/
def fnExactBufferedSpec : ChangeSpec := { name := "fnExactBuffered", fn := fun _ => fun
  | [d1, d2, d3, d4] => { results := [.lit (.bool true)], args := [d1, d2, d3, d4] }
  | _ => none }
def fnExactBufferedRow : OpenClaim := { program := "ythkfpbknfjapaaa", sum := "b3c4dc3ff0026aa080f888261f4c8bb34ac9f91588266ec1583b749c49127613", func := "loop.example/g00064/laws.FnExactBuffered", spec := "fnExactBuffered", unfollowed := true, recurses := true, apart := false }
def FnExactBufferedSaid : Prop := fnExactBufferedRow.holds Try.pinned (OpenSpec.ofChange fnExactBufferedSpec)

/-- ITS FALSE NEIGHBOUR: 'it returns false'. Refute it at one input. -/
def fnExactBufferedWrong : ChangeSpec := { name := "fnExactBuffered", fn := fun _ => fun
  | [d1, d2, d3, d4] => { results := [.lit (.bool false)], args := [d1, d2, d3, d4] }
  | _ => none }
def FnExactBufferedWrongFalsely : Prop := fnExactBufferedRow.holds Try.pinned (OpenSpec.ofChange fnExactBufferedWrong)

/-- 'laws.FnExactComboAt': WHATEVER THE INPUT: true; the input reads as it did. -/
def fnExactComboAtSpec : ChangeSpec := { name := "fnExactComboAt", fn := fun _ => fun
  | [d1, d2, d3] => { results := [.lit (.bool true)], args := [d1, d2, d3] }
  | _ => none }
def fnExactComboAtRow : OpenClaim := { program := "ythkfpbknfjapaaa", sum := "b3c4dc3ff0026aa080f888261f4c8bb34ac9f91588266ec1583b749c49127613", func := "loop.example/g00064/laws.FnExactComboAt", spec := "fnExactComboAt", unfollowed := true, recurses := true, apart := false }
def FnExactComboAtSaid : Prop := fnExactComboAtRow.holds Try.pinned (OpenSpec.ofChange fnExactComboAtSpec)

/-- ITS FALSE NEIGHBOUR: 'it returns false'. Refute it at one input. -/
def fnExactComboAtWrong : ChangeSpec := { name := "fnExactComboAt", fn := fun _ => fun
  | [d1, d2, d3] => { results := [.lit (.bool false)], args := [d1, d2, d3] }
  | _ => none }
def FnExactComboAtWrongFalsely : Prop := fnExactComboAtRow.holds Try.pinned (OpenSpec.ofChange fnExactComboAtWrong)

/- THE SECOND FORM. 'bulk': how many values and letters a reading holds, each counted each time it is reached (what is shared counts as often as it is met; a slice's spare places count too). A statement '..UptoSaid' is the law's where the arguments, and the package variables that the reading takes, are together of bulk at most 1048576: NARROWER than '..Said'. Prove '..Said' where nothing that the law and all that it calls make is longer than what came in: it says more and counts as full. Else prove '..UptoSaid'. A law counts once. -/
mutual
def uptoBulk {H : Type} : DataW H → Nat
  | .lit (.string bytes) => bytes.length + 1
  | .lit _ => 1
  | .nil => 1
  | .ptr d => uptoBulk d + 1
  | .slice elems spare => uptoBulkAll elems + uptoBulkAll spare + 1
  | .agg parts => uptoBulkAll parts + 1
  | .iface _ d => uptoBulk d + 1
  | .map entries => uptoBulkEntries entries + 1
  | .held _ => 1
def uptoBulkAll {H : Type} : List (DataW H) → Nat
  | [] => 0
  | d :: r => uptoBulk d + uptoBulkAll r
def uptoBulkEntries {H : Type} : List (Lit × DataW H) → Nat
  | [] => 0
  | x :: r => uptoBulkEntry x + uptoBulkEntries r
def uptoBulkEntry {H : Type} : Lit × DataW H → Nat
  | (.string bytes, d) => bytes.length + uptoBulk d + 1
  | (_, d) => uptoBulk d + 1
 end
def uptoSmall : (H : Type) → List (DataW H) → Bool := fun _ ds => decide (uptoBulkAll ds ≤ 1048576)
def OpenSpec.upto (s : _root_.Go.ChangeSpec) : _root_.Go.OpenSpec := { _root_.Go.OpenSpec.ofChange s with cond := some uptoSmall }

/-- 'laws.FnMeant', WHERE WHAT IT READS IS OF BULK AT MOST 1048576: true; the input reads as it did. -/
def fnMeantUptoRow : OpenClaim := { program := "ythkfpbknfjapaaa", sum := "b3c4dc3ff0026aa080f888261f4c8bb34ac9f91588266ec1583b749c49127613", func := "loop.example/g00064/laws.FnMeant", spec := "fnMeant", unfollowed := true, recurses := true, apart := false, narrowed := true }
def FnMeantUptoSaid : Prop := fnMeantUptoRow.holds Try.pinned (OpenSpec.upto fnMeantSpec)

/-- 'laws.FnExactGoodBinds', WHERE WHAT IT READS IS OF BULK AT MOST 1048576: true; the input reads as it did. -/
def fnExactGoodBindsUptoRow : OpenClaim := { program := "ythkfpbknfjapaaa", sum := "b3c4dc3ff0026aa080f888261f4c8bb34ac9f91588266ec1583b749c49127613", func := "loop.example/g00064/laws.FnExactGoodBinds", spec := "fnExactGoodBinds", unfollowed := true, recurses := true, apart := false, narrowed := true }
def FnExactGoodBindsUptoSaid : Prop := fnExactGoodBindsUptoRow.holds Try.pinned (OpenSpec.upto fnExactGoodBindsSpec)

/-- 'laws.FnExactRebind', WHERE WHAT IT READS IS OF BULK AT MOST 1048576: true; the input reads as it did. -/
def fnExactRebindUptoRow : OpenClaim := { program := "ythkfpbknfjapaaa", sum := "b3c4dc3ff0026aa080f888261f4c8bb34ac9f91588266ec1583b749c49127613", func := "loop.example/g00064/laws.FnExactRebind", spec := "fnExactRebind", unfollowed := true, recurses := true, apart := false, narrowed := true }
def FnExactRebindUptoSaid : Prop := fnExactRebindUptoRow.holds Try.pinned (OpenSpec.upto fnExactRebindSpec)

/-- 'laws.FnExactMeantBy', WHERE WHAT IT READS IS OF BULK AT MOST 1048576: true; the input reads as it did. -/
def fnExactMeantByUptoRow : OpenClaim := { program := "ythkfpbknfjapaaa", sum := "b3c4dc3ff0026aa080f888261f4c8bb34ac9f91588266ec1583b749c49127613", func := "loop.example/g00064/laws.FnExactMeantBy", spec := "fnExactMeantBy", unfollowed := true, recurses := true, apart := false, narrowed := true }
def FnExactMeantByUptoSaid : Prop := fnExactMeantByUptoRow.holds Try.pinned (OpenSpec.upto fnExactMeantBySpec)

/-- 'laws.FnExactHeldAt', WHERE WHAT IT READS IS OF BULK AT MOST 1048576: true; the input reads as it did. -/
def fnExactHeldAtUptoRow : OpenClaim := { program := "ythkfpbknfjapaaa", sum := "b3c4dc3ff0026aa080f888261f4c8bb34ac9f91588266ec1583b749c49127613", func := "loop.example/g00064/laws.FnExactHeldAt", spec := "fnExactHeldAt", unfollowed := true, recurses := true, apart := false, narrowed := true }
def FnExactHeldAtUptoSaid : Prop := fnExactHeldAtUptoRow.holds Try.pinned (OpenSpec.upto fnExactHeldAtSpec)

/-- 'laws.FnExactBuffered', WHERE WHAT IT READS IS OF BULK AT MOST 1048576: true; the input reads as it did. -/
def fnExactBufferedUptoRow : OpenClaim := { program := "ythkfpbknfjapaaa", sum := "b3c4dc3ff0026aa080f888261f4c8bb34ac9f91588266ec1583b749c49127613", func := "loop.example/g00064/laws.FnExactBuffered", spec := "fnExactBuffered", unfollowed := true, recurses := true, apart := false, narrowed := true }
def FnExactBufferedUptoSaid : Prop := fnExactBufferedUptoRow.holds Try.pinned (OpenSpec.upto fnExactBufferedSpec)

/-- 'laws.FnExactComboAt', WHERE WHAT IT READS IS OF BULK AT MOST 1048576: true; the input reads as it did. -/
def fnExactComboAtUptoRow : OpenClaim := { program := "ythkfpbknfjapaaa", sum := "b3c4dc3ff0026aa080f888261f4c8bb34ac9f91588266ec1583b749c49127613", func := "loop.example/g00064/laws.FnExactComboAt", spec := "fnExactComboAt", unfollowed := true, recurses := true, apart := false, narrowed := true }
def FnExactComboAtUptoSaid : Prop := fnExactComboAtUptoRow.holds Try.pinned (OpenSpec.upto fnExactComboAtSpec)

end Rows
end Go.Proofs.Ythkfpbknfjapaaa
