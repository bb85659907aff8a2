/-
  No cell of these rows narrows 'for every input' (looked for: loops, veiled, ifaces, maps, wideKeys, modest, calm, conditions, laid).
  DERIVED. THE GIVEN ROWS OF THIS SEAT. 8 by the template 'for every input the law returns true; each argument reads behind the call as it read before'; 0 by the template 'total and deterministic' (their statements: YtjpceimaggcncaaTotals.lean).
  GIVEN WITH THE SEED: the statements are not yours to turn. If you find one false, say at which input.
  Laid BY PROGRAM, IN A SANDBOX (cutbox-rows.mjs): the forced cells as the released guide's own fill.sh prints them over the translation 910e87cd2e13fdfa… (all of the seat's roots in one cut). By AI agents, Wed Nov 11 2026. No macro, syntax, notation, axiom, sorry.
-/
import Derived.Test.YtjpceimaggcncaaChecked
import GoSem.Claim
import GoSem.ClaimJoined
import GoSem.ClaimMapViews
import Derived.JoinedTies
import Derived.KernelRfl
namespace Go.Proofs.Ytjpceimaggcncaa
/- THE CELL 'sum', in the pinned program and in every row, IS THE sha256 OF THE DUMP (.gsa) THAT YtjpceimaggcncaaProg.lean LOADS. Nothing in Lean hashes anything: it is a label: what it is worth is what the hold of that sum in a sandbox is worth. -/
noncomputable def Try.pinned : Pinned := { name := "ytjpceimaggcncaa", sum := "910e87cd2e13fdfaddd35e08fd9d40eb151841dd3d1d0931050567ca1d316ccc", checked := Try.checked }
namespace Rows
def none {H : Type} : Left H := { results := [], args := [] }

/-- 'laws.FnPlans': WHATEVER THE INPUT: true; the input reads as it did. -/
def fnPlansSpec : ChangeSpec := { name := "fnPlans", fn := fun _ => fun
  | [d] => { results := [.lit (.bool true)], args := [d] }
  | _ => none }
def fnPlansRow : OpenClaim := { program := "ytjpceimaggcncaa", sum := "910e87cd2e13fdfaddd35e08fd9d40eb151841dd3d1d0931050567ca1d316ccc", func := "loop.example/g00064/laws.FnPlans", spec := "fnPlans", unfollowed := true, recurses := true, apart := false }
def FnPlansSaid : Prop := fnPlansRow.holds Try.pinned (OpenSpec.ofChange fnPlansSpec)

/-- ITS FALSE NEIGHBOUR: 'it returns false'. Refute it at one input. -/
def fnPlansWrong : ChangeSpec := { name := "fnPlans", fn := fun _ => fun
  | [d] => { results := [.lit (.bool false)], args := [d] }
  | _ => none }
def FnPlansWrongFalsely : Prop := fnPlansRow.holds Try.pinned (OpenSpec.ofChange fnPlansWrong)

/-- 'laws.FnExactGoodAction': WHATEVER THE INPUT: true; the input reads as it did. -/
def fnExactGoodActionSpec : ChangeSpec := { name := "fnExactGoodAction", fn := fun _ => fun
  | [d] => { results := [.lit (.bool true)], args := [d] }
  | _ => none }
def fnExactGoodActionRow : OpenClaim := { program := "ytjpceimaggcncaa", sum := "910e87cd2e13fdfaddd35e08fd9d40eb151841dd3d1d0931050567ca1d316ccc", func := "loop.example/g00064/laws.FnExactGoodAction", spec := "fnExactGoodAction", apart := false }
def FnExactGoodActionSaid : Prop := fnExactGoodActionRow.holds Try.pinned (OpenSpec.ofChange fnExactGoodActionSpec)

/-- ITS FALSE NEIGHBOUR: 'it returns false'. Refute it at one input. -/
def fnExactGoodActionWrong : ChangeSpec := { name := "fnExactGoodAction", fn := fun _ => fun
  | [d] => { results := [.lit (.bool false)], args := [d] }
  | _ => none }
def FnExactGoodActionWrongFalsely : Prop := fnExactGoodActionRow.holds Try.pinned (OpenSpec.ofChange fnExactGoodActionWrong)

/-- 'laws.FnExactMayDo': WHATEVER THE INPUT: true; the input reads as it did. -/
def fnExactMayDoSpec : ChangeSpec := { name := "fnExactMayDo", fn := fun _ => fun
  | [d1, d2] => { results := [.lit (.bool true)], args := [d1, d2] }
  | _ => none }
def fnExactMayDoRow : OpenClaim := { program := "ytjpceimaggcncaa", sum := "910e87cd2e13fdfaddd35e08fd9d40eb151841dd3d1d0931050567ca1d316ccc", func := "loop.example/g00064/laws.FnExactMayDo", spec := "fnExactMayDo", apart := false }
def FnExactMayDoSaid : Prop := fnExactMayDoRow.holds Try.pinned (OpenSpec.ofChange fnExactMayDoSpec)

/-- ITS FALSE NEIGHBOUR: 'it returns false'. Refute it at one input. -/
def fnExactMayDoWrong : ChangeSpec := { name := "fnExactMayDo", fn := fun _ => fun
  | [d1, d2] => { results := [.lit (.bool false)], args := [d1, d2] }
  | _ => none }
def FnExactMayDoWrongFalsely : Prop := fnExactMayDoRow.holds Try.pinned (OpenSpec.ofChange fnExactMayDoWrong)

/-- 'laws.FnExactAfterDoing': WHATEVER THE INPUT: true; the input reads as it did. -/
def fnExactAfterDoingSpec : ChangeSpec := { name := "fnExactAfterDoing", fn := fun _ => fun
  | [d1, d2] => { results := [.lit (.bool true)], args := [d1, d2] }
  | _ => none }
def fnExactAfterDoingRow : OpenClaim := { program := "ytjpceimaggcncaa", sum := "910e87cd2e13fdfaddd35e08fd9d40eb151841dd3d1d0931050567ca1d316ccc", func := "loop.example/g00064/laws.FnExactAfterDoing", spec := "fnExactAfterDoing", apart := false }
def FnExactAfterDoingSaid : Prop := fnExactAfterDoingRow.holds Try.pinned (OpenSpec.ofChange fnExactAfterDoingSpec)

/-- ITS FALSE NEIGHBOUR: 'it returns false'. Refute it at one input. -/
def fnExactAfterDoingWrong : ChangeSpec := { name := "fnExactAfterDoing", fn := fun _ => fun
  | [d1, d2] => { results := [.lit (.bool false)], args := [d1, d2] }
  | _ => none }
def FnExactAfterDoingWrongFalsely : Prop := fnExactAfterDoingRow.holds Try.pinned (OpenSpec.ofChange fnExactAfterDoingWrong)

/-- 'laws.FnExactCheapestPlan': WHATEVER THE INPUT: true; the input reads as it did. -/
def fnExactCheapestPlanSpec : ChangeSpec := { name := "fnExactCheapestPlan", fn := fun _ => fun
  | [d1, d2, d3, d4] => { results := [.lit (.bool true)], args := [d1, d2, d3, d4] }
  | _ => none }
def fnExactCheapestPlanRow : OpenClaim := { program := "ytjpceimaggcncaa", sum := "910e87cd2e13fdfaddd35e08fd9d40eb151841dd3d1d0931050567ca1d316ccc", func := "loop.example/g00064/laws.FnExactCheapestPlan", spec := "fnExactCheapestPlan", apart := false }
def FnExactCheapestPlanSaid : Prop := fnExactCheapestPlanRow.holds Try.pinned (OpenSpec.ofChange fnExactCheapestPlanSpec)

/-- ITS FALSE NEIGHBOUR: 'it returns false'. Refute it at one input. -/
def fnExactCheapestPlanWrong : ChangeSpec := { name := "fnExactCheapestPlan", fn := fun _ => fun
  | [d1, d2, d3, d4] => { results := [.lit (.bool false)], args := [d1, d2, d3, d4] }
  | _ => none }
def FnExactCheapestPlanWrongFalsely : Prop := fnExactCheapestPlanRow.holds Try.pinned (OpenSpec.ofChange fnExactCheapestPlanWrong)

/-- 'laws.FnExactPlanCost': WHATEVER THE INPUT: true; the input reads as it did. -/
def fnExactPlanCostSpec : ChangeSpec := { name := "fnExactPlanCost", fn := fun _ => fun
  | [d1, d2, d3] => { results := [.lit (.bool true)], args := [d1, d2, d3] }
  | _ => none }
def fnExactPlanCostRow : OpenClaim := { program := "ytjpceimaggcncaa", sum := "910e87cd2e13fdfaddd35e08fd9d40eb151841dd3d1d0931050567ca1d316ccc", func := "loop.example/g00064/laws.FnExactPlanCost", spec := "fnExactPlanCost", unfollowed := true, recurses := true, apart := false }
def FnExactPlanCostSaid : Prop := fnExactPlanCostRow.holds Try.pinned (OpenSpec.ofChange fnExactPlanCostSpec)

/-- ITS FALSE NEIGHBOUR: 'it returns false'. Refute it at one input. -/
def fnExactPlanCostWrong : ChangeSpec := { name := "fnExactPlanCost", fn := fun _ => fun
  | [d1, d2, d3] => { results := [.lit (.bool false)], args := [d1, d2, d3] }
  | _ => none }
def FnExactPlanCostWrongFalsely : Prop := fnExactPlanCostRow.holds Try.pinned (OpenSpec.ofChange fnExactPlanCostWrong)

/-- 'laws.FnExactBestChoice': WHATEVER THE INPUT: true; the input reads as it did. -/
def fnExactBestChoiceSpec : ChangeSpec := { name := "fnExactBestChoice", fn := fun _ => fun
  | [d] => { results := [.lit (.bool true)], args := [d] }
  | _ => none }
def fnExactBestChoiceRow : OpenClaim := { program := "ytjpceimaggcncaa", sum := "910e87cd2e13fdfaddd35e08fd9d40eb151841dd3d1d0931050567ca1d316ccc", func := "loop.example/g00064/laws.FnExactBestChoice", spec := "fnExactBestChoice", unfollowed := true, recurses := true, apart := false }
def FnExactBestChoiceSaid : Prop := fnExactBestChoiceRow.holds Try.pinned (OpenSpec.ofChange fnExactBestChoiceSpec)

/-- ITS FALSE NEIGHBOUR: 'it returns false'. Refute it at one input. -/
def fnExactBestChoiceWrong : ChangeSpec := { name := "fnExactBestChoice", fn := fun _ => fun
  | [d] => { results := [.lit (.bool false)], args := [d] }
  | _ => none }
def FnExactBestChoiceWrongFalsely : Prop := fnExactBestChoiceRow.holds Try.pinned (OpenSpec.ofChange fnExactBestChoiceWrong)

/-- 'laws.FnExactSteer': WHATEVER THE INPUT: true; the input reads as it did. -/
def fnExactSteerSpec : ChangeSpec := { name := "fnExactSteer", fn := fun _ => fun
  | [d1, d2, d3, d4, d5] => { results := [.lit (.bool true)], args := [d1, d2, d3, d4, d5] }
  | _ => none }
def fnExactSteerRow : OpenClaim := { program := "ytjpceimaggcncaa", sum := "910e87cd2e13fdfaddd35e08fd9d40eb151841dd3d1d0931050567ca1d316ccc", func := "loop.example/g00064/laws.FnExactSteer", spec := "fnExactSteer", inPlace := ["math/bits.Add64"], named := ["math/bits.divideError", "math/bits.overflowError"], apart := false }
def FnExactSteerSaid : Prop := fnExactSteerRow.holds Try.pinned (OpenSpec.ofChange fnExactSteerSpec)

/-- ITS FALSE NEIGHBOUR: 'it returns false'. Refute it at one input. -/
def fnExactSteerWrong : ChangeSpec := { name := "fnExactSteer", fn := fun _ => fun
  | [d1, d2, d3, d4, d5] => { results := [.lit (.bool false)], args := [d1, d2, d3, d4, d5] }
  | _ => none }
def FnExactSteerWrongFalsely : Prop := fnExactSteerRow.holds Try.pinned (OpenSpec.ofChange fnExactSteerWrong)

/- THE SECOND FORM. 'bulk': how many values and letters a reading holds, each counted each time it is reached (what is shared counts as often as it is met; a slice's spare places count too). A statement '..UptoSaid' is the law's where the arguments, and the package variables that the reading takes, are together of bulk at most 1048576: NARROWER than '..Said'. Prove '..Said' where nothing that the law and all that it calls make is longer than what came in: it says more and counts as full. Else prove '..UptoSaid'. A law counts once. -/
mutual
def uptoBulk {H : Type} : DataW H → Nat
  | .lit (.string bytes) => bytes.length + 1
  | .lit _ => 1
  | .nil => 1
  | .ptr d => uptoBulk d + 1
  | .slice elems spare => uptoBulkAll elems + uptoBulkAll spare + 1
  | .agg parts => uptoBulkAll parts + 1
  | .iface _ d => uptoBulk d + 1
  | .map entries => uptoBulkEntries entries + 1
  | .held _ => 1
def uptoBulkAll {H : Type} : List (DataW H) → Nat
  | [] => 0
  | d :: r => uptoBulk d + uptoBulkAll r
def uptoBulkEntries {H : Type} : List (Lit × DataW H) → Nat
  | [] => 0
  | x :: r => uptoBulkEntry x + uptoBulkEntries r
def uptoBulkEntry {H : Type} : Lit × DataW H → Nat
  | (.string bytes, d) => bytes.length + uptoBulk d + 1
  | (_, d) => uptoBulk d + 1
 end
def uptoSmall : (H : Type) → List (DataW H) → Bool := fun _ ds => decide (uptoBulkAll ds ≤ 1048576)
def OpenSpec.upto (s : _root_.Go.ChangeSpec) : _root_.Go.OpenSpec := { _root_.Go.OpenSpec.ofChange s with cond := some uptoSmall }

/-- 'laws.FnPlans', WHERE WHAT IT READS IS OF BULK AT MOST 1048576: true; the input reads as it did. -/
def fnPlansUptoRow : OpenClaim := { program := "ytjpceimaggcncaa", sum := "910e87cd2e13fdfaddd35e08fd9d40eb151841dd3d1d0931050567ca1d316ccc", func := "loop.example/g00064/laws.FnPlans", spec := "fnPlans", unfollowed := true, recurses := true, apart := false, narrowed := true }
def FnPlansUptoSaid : Prop := fnPlansUptoRow.holds Try.pinned (OpenSpec.upto fnPlansSpec)

/-- 'laws.FnExactGoodAction', WHERE WHAT IT READS IS OF BULK AT MOST 1048576: true; the input reads as it did. -/
def fnExactGoodActionUptoRow : OpenClaim := { program := "ytjpceimaggcncaa", sum := "910e87cd2e13fdfaddd35e08fd9d40eb151841dd3d1d0931050567ca1d316ccc", func := "loop.example/g00064/laws.FnExactGoodAction", spec := "fnExactGoodAction", apart := false, narrowed := true }
def FnExactGoodActionUptoSaid : Prop := fnExactGoodActionUptoRow.holds Try.pinned (OpenSpec.upto fnExactGoodActionSpec)

/-- 'laws.FnExactMayDo', WHERE WHAT IT READS IS OF BULK AT MOST 1048576: true; the input reads as it did. -/
def fnExactMayDoUptoRow : OpenClaim := { program := "ytjpceimaggcncaa", sum := "910e87cd2e13fdfaddd35e08fd9d40eb151841dd3d1d0931050567ca1d316ccc", func := "loop.example/g00064/laws.FnExactMayDo", spec := "fnExactMayDo", apart := false, narrowed := true }
def FnExactMayDoUptoSaid : Prop := fnExactMayDoUptoRow.holds Try.pinned (OpenSpec.upto fnExactMayDoSpec)

/-- 'laws.FnExactAfterDoing', WHERE WHAT IT READS IS OF BULK AT MOST 1048576: true; the input reads as it did. -/
def fnExactAfterDoingUptoRow : OpenClaim := { program := "ytjpceimaggcncaa", sum := "910e87cd2e13fdfaddd35e08fd9d40eb151841dd3d1d0931050567ca1d316ccc", func := "loop.example/g00064/laws.FnExactAfterDoing", spec := "fnExactAfterDoing", apart := false, narrowed := true }
def FnExactAfterDoingUptoSaid : Prop := fnExactAfterDoingUptoRow.holds Try.pinned (OpenSpec.upto fnExactAfterDoingSpec)

/-- 'laws.FnExactCheapestPlan', WHERE WHAT IT READS IS OF BULK AT MOST 1048576: true; the input reads as it did. -/
def fnExactCheapestPlanUptoRow : OpenClaim := { program := "ytjpceimaggcncaa", sum := "910e87cd2e13fdfaddd35e08fd9d40eb151841dd3d1d0931050567ca1d316ccc", func := "loop.example/g00064/laws.FnExactCheapestPlan", spec := "fnExactCheapestPlan", apart := false, narrowed := true }
def FnExactCheapestPlanUptoSaid : Prop := fnExactCheapestPlanUptoRow.holds Try.pinned (OpenSpec.upto fnExactCheapestPlanSpec)

/-- 'laws.FnExactPlanCost', WHERE WHAT IT READS IS OF BULK AT MOST 1048576: true; the input reads as it did. -/
def fnExactPlanCostUptoRow : OpenClaim := { program := "ytjpceimaggcncaa", sum := "910e87cd2e13fdfaddd35e08fd9d40eb151841dd3d1d0931050567ca1d316ccc", func := "loop.example/g00064/laws.FnExactPlanCost", spec := "fnExactPlanCost", unfollowed := true, recurses := true, apart := false, narrowed := true }
def FnExactPlanCostUptoSaid : Prop := fnExactPlanCostUptoRow.holds Try.pinned (OpenSpec.upto fnExactPlanCostSpec)

/-- 'laws.FnExactBestChoice', WHERE WHAT IT READS IS OF BULK AT MOST 1048576: true; the input reads as it did. -/
def fnExactBestChoiceUptoRow : OpenClaim := { program := "ytjpceimaggcncaa", sum := "910e87cd2e13fdfaddd35e08fd9d40eb151841dd3d1d0931050567ca1d316ccc", func := "loop.example/g00064/laws.FnExactBestChoice", spec := "fnExactBestChoice", unfollowed := true, recurses := true, apart := false, narrowed := true }
def FnExactBestChoiceUptoSaid : Prop := fnExactBestChoiceUptoRow.holds Try.pinned (OpenSpec.upto fnExactBestChoiceSpec)

/-- 'laws.FnExactSteer', WHERE WHAT IT READS IS OF BULK AT MOST 1048576: true; the input reads as it did. -/
def fnExactSteerUptoRow : OpenClaim := { program := "ytjpceimaggcncaa", sum := "910e87cd2e13fdfaddd35e08fd9d40eb151841dd3d1d0931050567ca1d316ccc", func := "loop.example/g00064/laws.FnExactSteer", spec := "fnExactSteer", inPlace := ["math/bits.Add64"], named := ["math/bits.divideError", "math/bits.overflowError"], apart := false, narrowed := true }
def FnExactSteerUptoSaid : Prop := fnExactSteerUptoRow.holds Try.pinned (OpenSpec.upto fnExactSteerSpec)

end Rows
end Go.Proofs.Ytjpceimaggcncaa
