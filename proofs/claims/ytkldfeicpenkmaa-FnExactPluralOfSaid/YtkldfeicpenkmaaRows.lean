/-
  No cell of these rows narrows 'for every input' (looked for: loops, veiled, ifaces, maps, wideKeys, modest, calm, conditions, laid).
  DERIVED. THE GIVEN ROWS OF THIS SEAT. 4 by the template 'for every input the law returns true; each argument reads behind the call as it read before'; 0 by the template 'total and deterministic' (their statements: YtkldfeicpenkmaaTotals.lean).
  GIVEN WITH THE SEED: the statements are not yours to turn. If you find one false, say at which input.
  Laid BY PROGRAM, IN A SANDBOX (cutbox-rows.mjs): the forced cells as the released guide's own fill.sh prints them over the translation c8bc379f2b84a23f… (all of the seat's roots in one cut). By AI agents, Wed Nov 11 2026. No macro, syntax, notation, axiom, sorry.
-/
import Derived.Test.YtkldfeicpenkmaaChecked
import GoSem.Claim
import GoSem.ClaimJoined
import GoSem.ClaimMapViews
import Derived.JoinedTies
import Derived.KernelRfl
namespace Go.Proofs.Ytkldfeicpenkmaa
/- THE CELL 'sum', in the pinned program and in every row, IS THE sha256 OF THE DUMP (.gsa) THAT YtkldfeicpenkmaaProg.lean LOADS. Nothing in Lean hashes anything: it is a label: what it is worth is what the hold of that sum in a sandbox is worth. -/
noncomputable def Try.pinned : Pinned := { name := "ytkldfeicpenkmaa", sum := "c8bc379f2b84a23f593aa1f8879cf04a0304e750f9fcf07a92f31ccba46e7729", checked := Try.checked }
namespace Rows
def none {H : Type} : Left H := { results := [], args := [] }

/-- 'laws.FnExactPluralOf': WHATEVER THE INPUT: true; the input reads as it did. -/
def fnExactPluralOfSpec : ChangeSpec := { name := "fnExactPluralOf", fn := fun _ => fun
  | [d1, d2] => { results := [.lit (.bool true)], args := [d1, d2] }
  | _ => none }
def fnExactPluralOfRow : OpenClaim := { program := "ytkldfeicpenkmaa", sum := "c8bc379f2b84a23f593aa1f8879cf04a0304e750f9fcf07a92f31ccba46e7729", func := "loop.example/g00064/laws.FnExactPluralOf", spec := "fnExactPluralOf", unfollowed := true, recurses := true, apart := false }
def FnExactPluralOfSaid : Prop := fnExactPluralOfRow.holds Try.pinned (OpenSpec.ofChange fnExactPluralOfSpec)

/-- ITS FALSE NEIGHBOUR: 'it returns false'. Refute it at one input. -/
def fnExactPluralOfWrong : ChangeSpec := { name := "fnExactPluralOf", fn := fun _ => fun
  | [d1, d2] => { results := [.lit (.bool false)], args := [d1, d2] }
  | _ => none }
def FnExactPluralOfWrongFalsely : Prop := fnExactPluralOfRow.holds Try.pinned (OpenSpec.ofChange fnExactPluralOfWrong)

/-- 'laws.FnExactFormsOf': WHATEVER THE INPUT: true; the input reads as it did. -/
def fnExactFormsOfSpec : ChangeSpec := { name := "fnExactFormsOf", fn := fun _ => fun
  | [d] => { results := [.lit (.bool true)], args := [d] }
  | _ => none }
def fnExactFormsOfRow : OpenClaim := { program := "ytkldfeicpenkmaa", sum := "c8bc379f2b84a23f593aa1f8879cf04a0304e750f9fcf07a92f31ccba46e7729", func := "loop.example/g00064/laws.FnExactFormsOf", spec := "fnExactFormsOf", apart := false }
def FnExactFormsOfSaid : Prop := fnExactFormsOfRow.holds Try.pinned (OpenSpec.ofChange fnExactFormsOfSpec)

/-- ITS FALSE NEIGHBOUR: 'it returns false'. Refute it at one input. -/
def fnExactFormsOfWrong : ChangeSpec := { name := "fnExactFormsOf", fn := fun _ => fun
  | [d] => { results := [.lit (.bool false)], args := [d] }
  | _ => none }
def FnExactFormsOfWrongFalsely : Prop := fnExactFormsOfRow.holds Try.pinned (OpenSpec.ofChange fnExactFormsOfWrong)

/-- 'laws.FnExactGoodEntries': WHATEVER THE INPUT: true; the input reads as it did. -/
def fnExactGoodEntriesSpec : ChangeSpec := { name := "fnExactGoodEntries", fn := fun _ => fun
  | [d1, d2] => { results := [.lit (.bool true)], args := [d1, d2] }
  | _ => none }
def fnExactGoodEntriesRow : OpenClaim := { program := "ytkldfeicpenkmaa", sum := "c8bc379f2b84a23f593aa1f8879cf04a0304e750f9fcf07a92f31ccba46e7729", func := "loop.example/g00064/laws.FnExactGoodEntries", spec := "fnExactGoodEntries", inPlace := ["internal/bytealg.IndexByteString", "internal/bytealg.IndexString"], named := ["internal/bytealg.MaxLen"], apart := false }
def FnExactGoodEntriesSaid : Prop := fnExactGoodEntriesRow.holds Try.pinned (OpenSpec.ofChange fnExactGoodEntriesSpec)

/-- ITS FALSE NEIGHBOUR: 'it returns false'. Refute it at one input. -/
def fnExactGoodEntriesWrong : ChangeSpec := { name := "fnExactGoodEntries", fn := fun _ => fun
  | [d1, d2] => { results := [.lit (.bool false)], args := [d1, d2] }
  | _ => none }
def FnExactGoodEntriesWrongFalsely : Prop := fnExactGoodEntriesRow.holds Try.pinned (OpenSpec.ofChange fnExactGoodEntriesWrong)

/-- 'laws.FnExactMissingIn': WHATEVER THE INPUT: true; the input reads as it did. -/
def fnExactMissingInSpec : ChangeSpec := { name := "fnExactMissingIn", fn := fun _ => fun
  | [d1, d2] => { results := [.lit (.bool true)], args := [d1, d2] }
  | _ => none }
def fnExactMissingInRow : OpenClaim := { program := "ytkldfeicpenkmaa", sum := "c8bc379f2b84a23f593aa1f8879cf04a0304e750f9fcf07a92f31ccba46e7729", func := "loop.example/g00064/laws.FnExactMissingIn", spec := "fnExactMissingIn", unfollowed := true, recurses := true, apart := false }
def FnExactMissingInSaid : Prop := fnExactMissingInRow.holds Try.pinned (OpenSpec.ofChange fnExactMissingInSpec)

/-- ITS FALSE NEIGHBOUR: 'it returns false'. Refute it at one input. -/
def fnExactMissingInWrong : ChangeSpec := { name := "fnExactMissingIn", fn := fun _ => fun
  | [d1, d2] => { results := [.lit (.bool false)], args := [d1, d2] }
  | _ => none }
def FnExactMissingInWrongFalsely : Prop := fnExactMissingInRow.holds Try.pinned (OpenSpec.ofChange fnExactMissingInWrong)

/- THE SECOND FORM. 'bulk': how many values and letters a reading holds, each counted each time it is reached (what is shared counts as often as it is met; a slice's spare places count too). A statement '..UptoSaid' is the law's where the arguments, and the package variables that the reading takes, are together of bulk at most 1048576: NARROWER than '..Said'. Prove '..Said' where nothing that the law and all that it calls make is longer than what came in: it says more and counts as full. Else prove '..UptoSaid'. A law counts once. -/
mutual
def uptoBulk {H : Type} : DataW H → Nat
  | .lit (.string bytes) => bytes.length + 1
  | .lit _ => 1
  | .nil => 1
  | .ptr d => uptoBulk d + 1
  | .slice elems spare => uptoBulkAll elems + uptoBulkAll spare + 1
  | .agg parts => uptoBulkAll parts + 1
  | .iface _ d => uptoBulk d + 1
  | .map entries => uptoBulkEntries entries + 1
  | .held _ => 1
def uptoBulkAll {H : Type} : List (DataW H) → Nat
  | [] => 0
  | d :: r => uptoBulk d + uptoBulkAll r
def uptoBulkEntries {H : Type} : List (Lit × DataW H) → Nat
  | [] => 0
  | x :: r => uptoBulkEntry x + uptoBulkEntries r
def uptoBulkEntry {H : Type} : Lit × DataW H → Nat
  | (.string bytes, d) => bytes.length + uptoBulk d + 1
  | (_, d) => uptoBulk d + 1
 end
def uptoSmall : (H : Type) → List (DataW H) → Bool := fun _ ds => decide (uptoBulkAll ds ≤ 1048576)
def OpenSpec.upto (s : _root_.Go.ChangeSpec) : _root_.Go.OpenSpec := { _root_.Go.OpenSpec.ofChange s with cond := some uptoSmall }

/-- 'laws.FnExactPluralOf', WHERE WHAT IT READS IS OF BULK AT MOST 1048576: true; the input reads as it did. -/
def fnExactPluralOfUptoRow : OpenClaim := { program := "ytkldfeicpenkmaa", sum := "c8bc379f2b84a23f593aa1f8879cf04a0304e750f9fcf07a92f31ccba46e7729", func := "loop.example/g00064/laws.FnExactPluralOf", spec := "fnExactPluralOf", unfollowed := true, recurses := true, apart := false, narrowed := true }
def FnExactPluralOfUptoSaid : Prop := fnExactPluralOfUptoRow.holds Try.pinned (OpenSpec.upto fnExactPluralOfSpec)

/-- 'laws.FnExactFormsOf', WHERE WHAT IT READS IS OF BULK AT MOST 1048576: true; the input reads as it did. -/
def fnExactFormsOfUptoRow : OpenClaim := { program := "ytkldfeicpenkmaa", sum := "c8bc379f2b84a23f593aa1f8879cf04a0304e750f9fcf07a92f31ccba46e7729", func := "loop.example/g00064/laws.FnExactFormsOf", spec := "fnExactFormsOf", apart := false, narrowed := true }
def FnExactFormsOfUptoSaid : Prop := fnExactFormsOfUptoRow.holds Try.pinned (OpenSpec.upto fnExactFormsOfSpec)

/-- 'laws.FnExactGoodEntries', WHERE WHAT IT READS IS OF BULK AT MOST 1048576: true; the input reads as it did. -/
def fnExactGoodEntriesUptoRow : OpenClaim := { program := "ytkldfeicpenkmaa", sum := "c8bc379f2b84a23f593aa1f8879cf04a0304e750f9fcf07a92f31ccba46e7729", func := "loop.example/g00064/laws.FnExactGoodEntries", spec := "fnExactGoodEntries", inPlace := ["internal/bytealg.IndexByteString", "internal/bytealg.IndexString"], named := ["internal/bytealg.MaxLen"], apart := false, narrowed := true }
def FnExactGoodEntriesUptoSaid : Prop := fnExactGoodEntriesUptoRow.holds Try.pinned (OpenSpec.upto fnExactGoodEntriesSpec)

/-- 'laws.FnExactMissingIn', WHERE WHAT IT READS IS OF BULK AT MOST 1048576: true; the input reads as it did. -/
def fnExactMissingInUptoRow : OpenClaim := { program := "ytkldfeicpenkmaa", sum := "c8bc379f2b84a23f593aa1f8879cf04a0304e750f9fcf07a92f31ccba46e7729", func := "loop.example/g00064/laws.FnExactMissingIn", spec := "fnExactMissingIn", unfollowed := true, recurses := true, apart := false, narrowed := true }
def FnExactMissingInUptoSaid : Prop := fnExactMissingInUptoRow.holds Try.pinned (OpenSpec.upto fnExactMissingInSpec)

end Rows
end Go.Proofs.Ytkldfeicpenkmaa
