/-
  Items: copied, held against one another.
-/
import Derived.Test.YtoimpkhgdpkhkaaDoorItem
import Derived.Test.YtoimpkhgdpkhkaaDoorPlaced
import Derived.Deep.RegionHeld3
namespace Go.Proofs.YtoimpkhgdpkhkaaDoor
open Go.ChangeShapes Go.WideShapes Go.ChangeAt Go.RowKit

set_option maxRecDepth 100000
set_option maxHeartbeats 4000000 in
theorem toItem (f0 f1 f2 f3 : Int) (f4 : Bool) (f5 f6 f7 f8 : Int) (w : World) :
    Calls Tryd.prog 15 #[.agg #[.int .i64 f0, .int .i64 f1, .int .i64 f2, .int .i64 f3, .bool f4, .int .i64 f5, .int .i64 f6, .int .i64 f7, .int .i64 f8]] w fun e w' => e = .returned (.agg #[.int .i64 f0, .int .i64 f1, .int .i64 f2, .int .i64 f3, .bool f4, .int .i64 f5, .int .i64 f6, .int .i64 f7, .int .i64 f8]) ∧ Kept w w' := by
  go_enter Tryd.func15, Tryd.ntmps15
  go_wp2_with (go_at_call 21; refine (toPlaced _ _ _ _ _).mono ?_
               rintro e w' ⟨rfl, hk⟩
               have K : Kept w w' := ((((But.refl _ _ _).alloc _).alloc _).alloc _).trans hk
               have L1 := (((Loc.new _ [.int .i64 0, .int .i64 0, .int .i64 0, .int .i64 0, .bool false, .int .i64 0, .int .i64 0, .int .i64 0, .int .i64 0] 26).alloc _).kept hk)
               have L2 := (Loc.new _ [.int .i64 f0, .int .i64 f1, .int .i64 f2, .int .i64 f3, .bool f4, .int .i64 0, .int .i64 0, .int .i64 0, .int .i64 0] 26).kept hk
               simp only [World.size_alloc] at L1 L2
               have a0 := L1.cell 0 rfl
               have a1 := L1.cell 1 rfl
               have a2 := L1.cell 2 rfl
               have a3 := L1.cell 3 rfl
               have a4 := L1.cell 4 rfl
               have a5 := L1.cell 5 rfl
               have a6 := L1.cell 6 rfl
               have a7 := L1.cell 7 rfl
               have a8 := L1.cell 8 rfl
               have b0 := L2.cell 0 rfl
               have b1 := L2.cell 1 rfl
               have b2 := L2.cell 2 rfl
               have b3 := L2.cell 3 rfl
               have b4 := L2.cell 4 rfl
               have b5 := L2.cell 5 rfl
               have b6 := L2.cell 6 rfl
               have b7 := L2.cell 7 rfl
               have b8 := L2.cell 8 rfl
               have fa0 := L1.frozen 0
               have fa1 := L1.frozen 1
               have fa2 := L1.frozen 2
               have fa3 := L1.frozen 3
               have fa4 := L1.frozen 4
               have fa5 := L1.frozen 5
               have fa6 := L1.frozen 6
               have fa7 := L1.frozen 7
               have fa8 := L1.frozen 8
               have fb5 := L2.frozen 5
               have fb6 := L2.frozen 6
               have fb7 := L2.frozen 7
               have fb8 := L2.frozen 8
               have K : Hid _ := K
               clear hk L1 L2)
  refine bodyPost_ret (v := .agg #[.int .i64 f0, .int .i64 f1, .int .i64 f2, .int .i64 f3, .bool f4, .int .i64 f5, .int .i64 f6, .int .i64 f7, .int .i64 f8]) (by simp [results, Tryd.results15, go_sem, *]) rfl ?_
  exact ⟨rfl, ((((((((((((K.out.setNew (by simp; omega) _).setNew (by simp; omega) _).setNew (by simp; omega) _).setNew (by simp; omega) _).setNew (by simp) _).setNew (by simp) _).setNew (by simp) _).setNew (by simp) _).setNew (by simp) _).setNew (by simp) _).setNew (by simp) _).setNew (by simp) _).setNew (by simp) _⟩

set_option maxHeartbeats 4000000 in
theorem eqItem (f0 f1 f2 f3 : Int) (f4 : Bool) (f5 f6 f7 f8 : Int) (w : World) :
    Calls Tryd.prog 17 #[.agg #[.int .i64 f0, .int .i64 f1, .int .i64 f2, .int .i64 f3, .bool f4, .int .i64 f5, .int .i64 f6, .int .i64 f7, .int .i64 f8], .agg #[.int .i64 f0, .int .i64 f1, .int .i64 f2, .int .i64 f3, .bool f4, .int .i64 f5, .int .i64 f6, .int .i64 f7, .int .i64 f8]] w fun e w' => e = .returned (.bool true) ∧ Kept w w' := by
  go_enter Tryd.func17, Tryd.ntmps17
  go_wp2_with (go_at_call 45; refine (eqPlaced _ _ _ _ _).mono ?_; rintro e w' ⟨rfl, hk⟩; have K : Kept w w' := (((But.refl _ _ _).alloc _).alloc _).trans hk; have K : Hid _ := K; clear hk)
  go_ret
  exact ⟨rfl, K.out⟩

end Go.Proofs.YtoimpkhgdpkhkaaDoor
