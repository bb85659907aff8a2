/-
  A store and its keeper.
-/
import Derived.Test.YtipgffikmnebnaaOwn21
import Derived.Test.YtipgffikmnebnaaBin21
import Derived.Test.YtipgffikmnebnaaLocks
namespace Go.Proofs.Ytipgffikmnebnaa
open Go.ChangeShapes Go.WideShapes Go.ChangeAt Go.RowKit

set_option maxRecDepth 100000
set_option linter.unusedVariables false
set_option linter.unusedSimpArgs false

/-- A store's keeper: its lock is free; the list is its own. -/
structure KeepO (w : World) (lo : Nat) (kb : Nat) (c : StoreD) (ao : Option Addr) (cap : Nat) : Prop where
  loc : Loc w kb [.int .i32 0, .int .u32 0, .int .i64 c.1, .int .i64 c.2.1, .slice ao c.2.2.length cap]
  own : ResidentO w lo kb (.slice ao c.2.2.length cap) c.2.2
set_option maxHeartbeats 4000000 in
theorem ikeeper (c : StoreD) (v : Value) (w : World) (hv : StoreAt w v c) (hn : c.2.2.length ≤ 1048576) :
    Calls Try.prog 70 #[v] w fun e w' => ∃ kb ao cap, e = .returned (.pointer (some ⟨kb, 0, none⟩)) ∧ KeepO w' (w.heap.size + 1) kb c ao cap ∧ w.heap.size + 1 ≤ kb ∧ Kept w w' := by
  have HV : Hid (StoreAt w v c) := hv
  obtain ⟨ao, cap, hfm⟩ := hv.form
  subst hfm
  clear hv
  go_enter Try.func70, Try.ntmps70
  repeat (first | go_values | go_skip | go_guarded | go_step | go_upon)
  go_at_call 110
  refine (icopy c _ _ (HV.out.kept ((But.refl _ _ _).alloc _)) hn).mono ?_
  rintro e u1 ⟨v1, rfl, o1, k1⟩
  obtain ⟨ao1, cap1, hf⟩ := o1.form
  subst hf
  simp only [World.size_alloc] at o1
  have HO : Hid (StoreO u1 (w.heap.size + 1 + 2) u1.heap.size (.agg #[.int .i64 c.1, .int .i64 c.2.1, .slice ao1 c.2.2.length cap1]) c) := o1
  have hsz := k1.size
  simp only [World.size_alloc] at hsz
  have HSZ : Hid (w.heap.size + 1 ≤ u1.heap.size) := hsz
  clear hsz
  have K1 : Kept w u1 := ((But.refl _ _ _).alloc _).trans k1
  have HK : Hid (Kept w u1) := K1
  clear o1 k1 K1
  dsimp only
  repeat (first | go_values | go_skip | go_guarded | go_step | go_upon)
  go_ret
  exact ⟨_, ao1, cap1, rfl, ⟨Loc.new u1 _ _, ((ResidentO.kept HO.out.row ((But.refl _ _ _).alloc _)).mono (by omega) (Nat.le_refl _))⟩, HSZ.out, HK.out.alloc _⟩
theorem iloose (y0 : ByteArray) (y1 y2 y3 : Int) (w : World) : Calls Try.prog 138 #[.agg #[.string y0, .int .i64 y1, .int .i64 y2, .int .i64 y3]] w fun e w' => e = .returned (.bool (y2 == 0)) ∧ Kept w w' := by
  go_enter Try.func138, Try.ntmps138
  go_wp2
  all_goals
    go_ret
    exact ⟨rfl, (But.refl _ _ _).alloc _⟩

end Go.Proofs.Ytipgffikmnebnaa
