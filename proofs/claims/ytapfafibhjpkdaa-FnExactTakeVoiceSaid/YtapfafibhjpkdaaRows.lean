/-
  No cell of these rows narrows 'for every input' (looked for: loops, veiled, ifaces, maps, wideKeys, modest, calm, conditions, laid).
  DERIVED. THE GIVEN ROWS OF THIS SEAT. 6 by the template 'for every input the law returns true; each argument reads behind the call as it read before'; 0 by the template 'total and deterministic' (their statements: YtapfafibhjpkdaaTotals.lean).
  GIVEN WITH THE SEED: the statements are not yours to turn. If you find one false, say at which input.
  Laid BY PROGRAM, IN A SANDBOX (cutbox-rows.mjs): the forced cells as the released guide's own fill.sh prints them over the translation 51580ec595e8a6b3… (all of the seat's roots in one cut). By AI agents, Wed Nov 11 2026. No macro, syntax, notation, axiom, sorry.
-/
import Derived.Test.YtapfafibhjpkdaaChecked
import GoSem.Claim
import GoSem.ClaimJoined
import GoSem.ClaimMapViews
import Derived.JoinedTies
import Derived.KernelRfl
namespace Go.Proofs.Ytapfafibhjpkdaa
/- THE CELL 'sum', in the pinned program and in every row, IS THE sha256 OF THE DUMP (.gsa) THAT YtapfafibhjpkdaaProg.lean LOADS. Nothing in Lean hashes anything: it is a label: what it is worth is what the hold of that sum in a sandbox is worth. -/
noncomputable def Try.pinned : Pinned := { name := "ytapfafibhjpkdaa", sum := "51580ec595e8a6b317c6203b1a5171b4020e00ad48848562e11246bc79685be1", checked := Try.checked }
namespace Rows
def none {H : Type} : Left H := { results := [], args := [] }

/-- 'laws.FnExactGoodVoice': WHATEVER THE INPUT: true; the input reads as it did. -/
def fnExactGoodVoiceSpec : ChangeSpec := { name := "fnExactGoodVoice", fn := fun _ => fun
  | [d] => { results := [.lit (.bool true)], args := [d] }
  | _ => none }
def fnExactGoodVoiceRow : OpenClaim := { program := "ytapfafibhjpkdaa", sum := "51580ec595e8a6b317c6203b1a5171b4020e00ad48848562e11246bc79685be1", func := "loop.example/g00064/laws.FnExactGoodVoice", spec := "fnExactGoodVoice", apart := false }
def FnExactGoodVoiceSaid : Prop := fnExactGoodVoiceRow.holds Try.pinned (OpenSpec.ofChange fnExactGoodVoiceSpec)

/-- ITS FALSE NEIGHBOUR: 'it returns false'. Refute it at one input. -/
def fnExactGoodVoiceWrong : ChangeSpec := { name := "fnExactGoodVoice", fn := fun _ => fun
  | [d] => { results := [.lit (.bool false)], args := [d] }
  | _ => none }
def FnExactGoodVoiceWrongFalsely : Prop := fnExactGoodVoiceRow.holds Try.pinned (OpenSpec.ofChange fnExactGoodVoiceWrong)

/-- 'laws.FnExactMixVoices': WHATEVER THE INPUT: true; the input reads as it did. -/
def fnExactMixVoicesSpec : ChangeSpec := { name := "fnExactMixVoices", fn := fun _ => fun
  | [d1, d2] => { results := [.lit (.bool true)], args := [d1, d2] }
  | _ => none }
def fnExactMixVoicesRow : OpenClaim := { program := "ytapfafibhjpkdaa", sum := "51580ec595e8a6b317c6203b1a5171b4020e00ad48848562e11246bc79685be1", func := "loop.example/g00064/laws.FnExactMixVoices", spec := "fnExactMixVoices", inPlace := ["(*sync.WaitGroup).Add", "internal/race.ReleaseMerge", "internal/race.Disable", "internal/race.Enable", "internal/synctest.IsInBubble", "internal/synctest.Associate[sync.WaitGroup]", "sync.fatal", "sync/atomic.OrUint64", "sync/atomic.AddUint64", "internal/race.Read", "sync/atomic.LoadUint64", "sync/atomic.StoreUint64", "internal/synctest.Disassociate[sync.WaitGroup]", "sync.runtime_Semrelease", "(*sync.WaitGroup).Done", "(*sync.WaitGroup).Wait", "internal/race.Acquire", "internal/synctest.IsAssociated[sync.WaitGroup]", "sync/atomic.CompareAndSwapUint64", "internal/race.Write", "sync.runtime_SemacquireWaitGroup"], unfollowed := true, recurses := true, leaving := true, apart := false }
def FnExactMixVoicesSaid : Prop := fnExactMixVoicesRow.holds Try.pinned (OpenSpec.ofChange fnExactMixVoicesSpec)

/-- ITS FALSE NEIGHBOUR: 'it returns false'. Refute it at one input. -/
def fnExactMixVoicesWrong : ChangeSpec := { name := "fnExactMixVoices", fn := fun _ => fun
  | [d1, d2] => { results := [.lit (.bool false)], args := [d1, d2] }
  | _ => none }
def FnExactMixVoicesWrongFalsely : Prop := fnExactMixVoicesRow.holds Try.pinned (OpenSpec.ofChange fnExactMixVoicesWrong)

/-- 'laws.FnExactTakeVoice': WHATEVER THE INPUT: true; the input reads as it did. -/
def fnExactTakeVoiceSpec : ChangeSpec := { name := "fnExactTakeVoice", fn := fun _ => fun
  | [d1, d2] => { results := [.lit (.bool true)], args := [d1, d2] }
  | _ => none }
def fnExactTakeVoiceRow : OpenClaim := { program := "ytapfafibhjpkdaa", sum := "51580ec595e8a6b317c6203b1a5171b4020e00ad48848562e11246bc79685be1", func := "loop.example/g00064/laws.FnExactTakeVoice", spec := "fnExactTakeVoice", apart := false }
def FnExactTakeVoiceSaid : Prop := fnExactTakeVoiceRow.holds Try.pinned (OpenSpec.ofChange fnExactTakeVoiceSpec)

/-- ITS FALSE NEIGHBOUR: 'it returns false'. Refute it at one input. -/
def fnExactTakeVoiceWrong : ChangeSpec := { name := "fnExactTakeVoice", fn := fun _ => fun
  | [d1, d2] => { results := [.lit (.bool false)], args := [d1, d2] }
  | _ => none }
def FnExactTakeVoiceWrongFalsely : Prop := fnExactTakeVoiceRow.holds Try.pinned (OpenSpec.ofChange fnExactTakeVoiceWrong)

/-- 'laws.FnExactGainsAt': WHATEVER THE INPUT: true; the input reads as it did. -/
def fnExactGainsAtSpec : ChangeSpec := { name := "fnExactGainsAt", fn := fun _ => fun
  | [d1, d2, d3] => { results := [.lit (.bool true)], args := [d1, d2, d3] }
  | _ => none }
def fnExactGainsAtRow : OpenClaim := { program := "ytapfafibhjpkdaa", sum := "51580ec595e8a6b317c6203b1a5171b4020e00ad48848562e11246bc79685be1", func := "loop.example/g00064/laws.FnExactGainsAt", spec := "fnExactGainsAt", inPlace := ["math/bits.Add64"], apart := false }
def FnExactGainsAtSaid : Prop := fnExactGainsAtRow.holds Try.pinned (OpenSpec.ofChange fnExactGainsAtSpec)

/-- ITS FALSE NEIGHBOUR: 'it returns false'. Refute it at one input. -/
def fnExactGainsAtWrong : ChangeSpec := { name := "fnExactGainsAt", fn := fun _ => fun
  | [d1, d2, d3] => { results := [.lit (.bool false)], args := [d1, d2, d3] }
  | _ => none }
def FnExactGainsAtWrongFalsely : Prop := fnExactGainsAtRow.holds Try.pinned (OpenSpec.ofChange fnExactGainsAtWrong)

/-- 'laws.FnExactGoodMusic': WHATEVER THE INPUT: true; the input reads as it did. -/
def fnExactGoodMusicSpec : ChangeSpec := { name := "fnExactGoodMusic", fn := fun _ => fun
  | [d1, d2] => { results := [.lit (.bool true)], args := [d1, d2] }
  | _ => none }
def fnExactGoodMusicRow : OpenClaim := { program := "ytapfafibhjpkdaa", sum := "51580ec595e8a6b317c6203b1a5171b4020e00ad48848562e11246bc79685be1", func := "loop.example/g00064/laws.FnExactGoodMusic", spec := "fnExactGoodMusic", apart := false }
def FnExactGoodMusicSaid : Prop := fnExactGoodMusicRow.holds Try.pinned (OpenSpec.ofChange fnExactGoodMusicSpec)

/-- ITS FALSE NEIGHBOUR: 'it returns false'. Refute it at one input. -/
def fnExactGoodMusicWrong : ChangeSpec := { name := "fnExactGoodMusic", fn := fun _ => fun
  | [d1, d2] => { results := [.lit (.bool false)], args := [d1, d2] }
  | _ => none }
def FnExactGoodMusicWrongFalsely : Prop := fnExactGoodMusicRow.holds Try.pinned (OpenSpec.ofChange fnExactGoodMusicWrong)

/-- 'laws.FnExactAskMusic': WHATEVER THE INPUT: true; the input reads as it did. -/
def fnExactAskMusicSpec : ChangeSpec := { name := "fnExactAskMusic", fn := fun _ => fun
  | [d1, d2, d3] => { results := [.lit (.bool true)], args := [d1, d2, d3] }
  | _ => none }
def fnExactAskMusicRow : OpenClaim := { program := "ytapfafibhjpkdaa", sum := "51580ec595e8a6b317c6203b1a5171b4020e00ad48848562e11246bc79685be1", func := "loop.example/g00064/laws.FnExactAskMusic", spec := "fnExactAskMusic", apart := false }
def FnExactAskMusicSaid : Prop := fnExactAskMusicRow.holds Try.pinned (OpenSpec.ofChange fnExactAskMusicSpec)

/-- ITS FALSE NEIGHBOUR: 'it returns false'. Refute it at one input. -/
def fnExactAskMusicWrong : ChangeSpec := { name := "fnExactAskMusic", fn := fun _ => fun
  | [d1, d2, d3] => { results := [.lit (.bool false)], args := [d1, d2, d3] }
  | _ => none }
def FnExactAskMusicWrongFalsely : Prop := fnExactAskMusicRow.holds Try.pinned (OpenSpec.ofChange fnExactAskMusicWrong)

/- THE SECOND FORM. 'bulk': how many values and letters a reading holds, each counted each time it is reached (what is shared counts as often as it is met; a slice's spare places count too). A statement '..UptoSaid' is the law's where the arguments, and the package variables that the reading takes, are together of bulk at most 1048576: NARROWER than '..Said'. Prove '..Said' where nothing that the law and all that it calls make is longer than what came in: it says more and counts as full. Else prove '..UptoSaid'. A law counts once. -/
mutual
def uptoBulk {H : Type} : DataW H → Nat
  | .lit (.string bytes) => bytes.length + 1
  | .lit _ => 1
  | .nil => 1
  | .ptr d => uptoBulk d + 1
  | .slice elems spare => uptoBulkAll elems + uptoBulkAll spare + 1
  | .agg parts => uptoBulkAll parts + 1
  | .iface _ d => uptoBulk d + 1
  | .map entries => uptoBulkEntries entries + 1
  | .held _ => 1
def uptoBulkAll {H : Type} : List (DataW H) → Nat
  | [] => 0
  | d :: r => uptoBulk d + uptoBulkAll r
def uptoBulkEntries {H : Type} : List (Lit × DataW H) → Nat
  | [] => 0
  | x :: r => uptoBulkEntry x + uptoBulkEntries r
def uptoBulkEntry {H : Type} : Lit × DataW H → Nat
  | (.string bytes, d) => bytes.length + uptoBulk d + 1
  | (_, d) => uptoBulk d + 1
 end
def uptoSmall : (H : Type) → List (DataW H) → Bool := fun _ ds => decide (uptoBulkAll ds ≤ 1048576)
def OpenSpec.upto (s : _root_.Go.ChangeSpec) : _root_.Go.OpenSpec := { _root_.Go.OpenSpec.ofChange s with cond := some uptoSmall }

/-- 'laws.FnExactGoodVoice', WHERE WHAT IT READS IS OF BULK AT MOST 1048576: true; the input reads as it did. -/
def fnExactGoodVoiceUptoRow : OpenClaim := { program := "ytapfafibhjpkdaa", sum := "51580ec595e8a6b317c6203b1a5171b4020e00ad48848562e11246bc79685be1", func := "loop.example/g00064/laws.FnExactGoodVoice", spec := "fnExactGoodVoice", apart := false, narrowed := true }
def FnExactGoodVoiceUptoSaid : Prop := fnExactGoodVoiceUptoRow.holds Try.pinned (OpenSpec.upto fnExactGoodVoiceSpec)

/-- 'laws.FnExactMixVoices', WHERE WHAT IT READS IS OF BULK AT MOST 1048576: true; the input reads as it did. -/
def fnExactMixVoicesUptoRow : OpenClaim := { program := "ytapfafibhjpkdaa", sum := "51580ec595e8a6b317c6203b1a5171b4020e00ad48848562e11246bc79685be1", func := "loop.example/g00064/laws.FnExactMixVoices", spec := "fnExactMixVoices", inPlace := ["(*sync.WaitGroup).Add", "internal/race.ReleaseMerge", "internal/race.Disable", "internal/race.Enable", "internal/synctest.IsInBubble", "internal/synctest.Associate[sync.WaitGroup]", "sync.fatal", "sync/atomic.OrUint64", "sync/atomic.AddUint64", "internal/race.Read", "sync/atomic.LoadUint64", "sync/atomic.StoreUint64", "internal/synctest.Disassociate[sync.WaitGroup]", "sync.runtime_Semrelease", "(*sync.WaitGroup).Done", "(*sync.WaitGroup).Wait", "internal/race.Acquire", "internal/synctest.IsAssociated[sync.WaitGroup]", "sync/atomic.CompareAndSwapUint64", "internal/race.Write", "sync.runtime_SemacquireWaitGroup"], unfollowed := true, recurses := true, leaving := true, apart := false, narrowed := true }
def FnExactMixVoicesUptoSaid : Prop := fnExactMixVoicesUptoRow.holds Try.pinned (OpenSpec.upto fnExactMixVoicesSpec)

/-- 'laws.FnExactTakeVoice', WHERE WHAT IT READS IS OF BULK AT MOST 1048576: true; the input reads as it did. -/
def fnExactTakeVoiceUptoRow : OpenClaim := { program := "ytapfafibhjpkdaa", sum := "51580ec595e8a6b317c6203b1a5171b4020e00ad48848562e11246bc79685be1", func := "loop.example/g00064/laws.FnExactTakeVoice", spec := "fnExactTakeVoice", apart := false, narrowed := true }
def FnExactTakeVoiceUptoSaid : Prop := fnExactTakeVoiceUptoRow.holds Try.pinned (OpenSpec.upto fnExactTakeVoiceSpec)

/-- 'laws.FnExactGainsAt', WHERE WHAT IT READS IS OF BULK AT MOST 1048576: true; the input reads as it did. -/
def fnExactGainsAtUptoRow : OpenClaim := { program := "ytapfafibhjpkdaa", sum := "51580ec595e8a6b317c6203b1a5171b4020e00ad48848562e11246bc79685be1", func := "loop.example/g00064/laws.FnExactGainsAt", spec := "fnExactGainsAt", inPlace := ["math/bits.Add64"], apart := false, narrowed := true }
def FnExactGainsAtUptoSaid : Prop := fnExactGainsAtUptoRow.holds Try.pinned (OpenSpec.upto fnExactGainsAtSpec)

/-- 'laws.FnExactGoodMusic', WHERE WHAT IT READS IS OF BULK AT MOST 1048576: true; the input reads as it did. -/
def fnExactGoodMusicUptoRow : OpenClaim := { program := "ytapfafibhjpkdaa", sum := "51580ec595e8a6b317c6203b1a5171b4020e00ad48848562e11246bc79685be1", func := "loop.example/g00064/laws.FnExactGoodMusic", spec := "fnExactGoodMusic", apart := false, narrowed := true }
def FnExactGoodMusicUptoSaid : Prop := fnExactGoodMusicUptoRow.holds Try.pinned (OpenSpec.upto fnExactGoodMusicSpec)

/-- 'laws.FnExactAskMusic', WHERE WHAT IT READS IS OF BULK AT MOST 1048576: true; the input reads as it did. -/
def fnExactAskMusicUptoRow : OpenClaim := { program := "ytapfafibhjpkdaa", sum := "51580ec595e8a6b317c6203b1a5171b4020e00ad48848562e11246bc79685be1", func := "loop.example/g00064/laws.FnExactAskMusic", spec := "fnExactAskMusic", apart := false, narrowed := true }
def FnExactAskMusicUptoSaid : Prop := fnExactAskMusicUptoRow.holds Try.pinned (OpenSpec.upto fnExactAskMusicSpec)

end Rows
end Go.Proofs.Ytapfafibhjpkdaa
