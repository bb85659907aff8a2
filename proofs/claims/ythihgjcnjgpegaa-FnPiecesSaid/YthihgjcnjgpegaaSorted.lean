/-
  The timers of an iterator, sorted by their Ids.
-/
import Derived.Test.YthihgjcnjgpegaaColl
import Derived.Test.YthihgjcnjgpegaaSort
import Derived.Shelf.SlSortCmp.NoneTotal
namespace Go.Proofs.Ythihgjcnjgpegaa
open Go.ChangeShapes Go.WideShapes Go.ChangeAt Go.RowKit

set_option maxRecDepth 100000
set_option maxHeartbeats 2000000 in
theorem sortedFunc (Bs : Nat) (ps l : List TimerD) (ao : Option Addr) (cap : Nat) (w : World) (hBs : w.cell? ⟨Bs, 0, none⟩ = some (.slice ao ps.length cap)) (hv : TimerAt w (.slice ao ps.length cap) ps) (hlen : ps.length ≤ 1048576) (hp : l.Perm ps) (hr : Rising l) :
    Calls Try.prog 43 #[.func (.func 69) #[] #[.pointer (some ⟨Bs, 0, none⟩)], .func (.func 45) #[] #[]] w fun e w' => ∃ v', e = .returned v' ∧ TimerO w' w.heap.size w'.heap.size v' l ∧ Kept w w' := by
  go_enter Try.func43, Try.ntmps43
  repeat (first | go_values | go_skip | go_guarded | go_step | go_upon)
  go_at_call 67
  refine (collect Bs ps ao cap _ hBs hv hlen).mono ?_
  rintro e w1 ⟨v1, rfl, o1, k1⟩
  obtain ⟨ao1, cap1, hfm⟩ := o1.form
  subst hfm
  dsimp only
  repeat (first | go_values | go_skip | go_guarded | go_step | go_upon)
  go_at_call 68
  by_cases h0 : 0 < ps.length
  · refine (sortAny ps l _ _ w.heap.size o1 hp hr hlen h0).mono ?_
    rintro e w2 ⟨rfl, o2, b2⟩
    dsimp only
    repeat (first | go_values | go_skip | go_guarded | go_step | go_upon)
    go_ret
    exact ⟨_, rfl, o2, k1.onto b2 (Nat.le_refl _)⟩
  · have hl0 : ps = [] := List.length_eq_zero_iff.1 (by omega)
    subst hl0
    have hl1 : l = [] := hp.eq_nil
    subst hl1
    have h := AnyF.slices_SortFunc_none Try.sortT ao1 cap1 (.func (.func 45) #[] #[]) w1
    refine Calls.mono h ?_
    rintro e w2 ⟨rfl, rfl⟩
    dsimp only
    repeat (first | go_values | go_skip | go_guarded | go_step | go_upon)
    go_ret
    exact ⟨_, rfl, o1, k1⟩

end Go.Proofs.Ythihgjcnjgpegaa
