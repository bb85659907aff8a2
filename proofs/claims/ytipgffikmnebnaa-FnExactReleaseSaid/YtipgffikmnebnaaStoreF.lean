/-
  Stores weighed, copied and held against one another.
-/
import Derived.Test.YtipgffikmnebnaaStore
import Derived.Test.YtipgffikmnebnaaResidentF
namespace Go.Proofs.Ytipgffikmnebnaa
open Go.ChangeShapes Go.WideShapes Go.ChangeAt Go.RowKit

set_option maxRecDepth 100000
theorem szStore (c : StoreD) (v : Value) (left : Int) (w : World) (hv : StoreAt w v c) (hl : 0 ≤ left) (hm : left ≤ 1048576) (hn : c.2.2.length ≤ 9223372036854775807 ∧ ∀ p ∈ c.2.2, p.1.size ≤ 9223372036854775807) :
    Calls Try.prog 39 #[v, .int .i64 left] w fun e w' => e = .returned (.int .i64 (leftOf left (residentCost c.2.2))) ∧ Kept w w' := by
  obtain ⟨ao, cap, hfm⟩ := hv.form
  subst hfm
  have hr := hv.row
  by_cases hc : left < (residentCost c.2.2 : Int)
  · have hc2 : decide (left - (residentCost c.2.2 : Int) < 0) = true := by simp; omega
    go_enter Try.func39, Try.ntmps39
    repeat (first | go_values | go_skip | go_guarded | go_step | go_upon)
    go_at_call 90
    refine (szResidentS c.2.2 _ _ _ (hr.kept ((But.refl _ _ _).alloc _)) hl hm hn.1 hn.2).mono ?_
    rintro e u1 ⟨rfl, k1⟩
    rw [leftOf_no (by omega)]
    dsimp only
    repeat (first | go_values | go_skip | go_guarded | go_step | go_upon)
    go_ret
    exact ⟨ret_int (leftOf_no (by omega)).symm, ((But.refl _ _ _).alloc _).trans k1⟩
  · have hc2 : decide (left - (residentCost c.2.2 : Int) < 0) = false := by simp; omega
    go_enter Try.func39, Try.ntmps39
    repeat (first | go_values | go_skip | go_guarded | go_step | go_upon)
    go_at_call 90
    refine (szResidentS c.2.2 _ _ _ (hr.kept ((But.refl _ _ _).alloc _)) hl hm hn.1 hn.2).mono ?_
    rintro e u1 ⟨rfl, k1⟩
    rw [leftOf_yes (by omega)]
    dsimp only
    repeat (first | go_values | go_skip | go_guarded | go_step | go_upon)
    go_ret
    exact ⟨ret_int (leftOf_yes (by omega)).symm, ((But.refl _ _ _).alloc _).trans k1⟩

theorem toStore (c : StoreD) (v : Value) (w : World) (hv : StoreAt w v c) (hl : c.2.2.length ≤ 1048576) :
    Calls Try.prog 41 #[v] w fun e w' => ∃ v', e = .returned v' ∧ StoreO w' w.heap.size w'.heap.size v' c ∧ Kept w w' := by
  obtain ⟨ao, cap, hfm⟩ := hv.form
  subst hfm
  have hr := hv.row
  go_enter Try.func41, Try.ntmps41
  go_wp2_with (go_at_call 91; refine (toResidentS c.2.2 _ _ (hr.kept ((((But.refl _ _ _).alloc _).alloc _).alloc _)) hl).mono ?_
               rintro e w' ⟨v', rfl, ho, hk⟩
               obtain ⟨ao', cap', hf⟩ := ho.form
               subst hf
               have K : Kept w w' := ((((But.refl _ _ _).alloc _).alloc _).alloc _).trans hk
               have L1 := (((Loc.new _ [.int .i64 0, .int .i64 0, .slice none 0 0] 33).alloc _).kept hk)
               have L2 := (Loc.new _ [.int .i64 c.1, .int .i64 c.2.1, .slice none 0 0] 33).kept hk
               simp only [World.size_alloc] at L1 L2 ho
               have f0 := L1.cell 0 rfl
               have f1 := L1.cell 1 rfl
               have f6 := L1.cell 2 rfl
               have f3 := L2.cell 0 rfl
               have f4 := L2.cell 1 rfl
               have f7 := L2.cell 2 rfl
               have g0 := L1.frozen 0
               have g1 := L1.frozen 1
               have g3 := L1.frozen 2
               have g5 := L2.frozen 2
               have ho : Hid _ := ho
               have K : Hid _ := K
               clear hk L1 L2)
  have B : But w.heap.size (w.heap.size + 3) w' ((((w'.setCell ⟨w.heap.size + 1 + 1, 2, none⟩ (.slice ao' c.2.2.length cap')).setCell ⟨w.heap.size + 1, 0, none⟩ (.int .i64 c.1)).setCell ⟨w.heap.size + 1, 1, none⟩ (.int .i64 c.2.1)).setCell ⟨w.heap.size + 1, 2, none⟩ (.slice ao' c.2.2.length cap')) :=
    ((((But.refl _ _ _).setCell (by simp; omega) (by simp) _).setCell (by simp) (by simp) _).setCell (by simp) (by simp) _).setCell (by simp) (by simp) _
  refine bodyPost_ret (v := .agg #[.int .i64 c.1, .int .i64 c.2.1, .slice ao' c.2.2.length cap']) (by simp [results, Try.results41, go_sem, f0, f1, f6]) rfl ?_
  exact ⟨_, rfl, ⟨_, rfl, ((ho.out.but B (by omega)).mono (by omega) B.size).low⟩, (K.out.onto B (Nat.le_refl _))⟩

theorem eqStore (c : StoreD) (v v' : Value) (w : World) (hv : StoreAt w v c) (hv' : StoreAt w v' c) (hn : c.2.2.length ≤ 9000000000000000000) :
    Calls Try.prog 43 #[v, v'] w fun e w' => e = .returned (.bool true) ∧ Kept w w' := by
  obtain ⟨ao, cap, hfm⟩ := hv.form
  subst hfm
  obtain ⟨ao', cap', hfm⟩ := hv'.form
  subst hfm
  have hr := hv.row
  have hr' := hv'.row
  go_enter Try.func43, Try.ntmps43
  repeat (first | go_values | go_skip | go_guarded | go_step | go_upon)
  go_at_call 97
  refine (eqResidentS c.2.2 _ _ _ (hr.kept (((But.refl _ _ _).alloc _).alloc _)) (hr'.kept (((But.refl _ _ _).alloc _).alloc _)) hn).mono ?_
  rintro e u1 ⟨rfl, k1⟩
  dsimp only
  repeat (first | go_values | go_skip | go_guarded | go_step | go_upon)
  go_ret
  exact ⟨rfl, (((But.refl _ _ _).alloc _).alloc _).trans k1⟩

end Go.Proofs.Ytipgffikmnebnaa
