/-
  Bits weighed, copied and held against one another.
-/
import Derived.Test.YtaadlhcpgjibeaaBits
namespace Go.Proofs.Ytaadlhcpgjibeaa
open Go.ChangeShapes Go.WideShapes Go.ChangeAt Go.RowKit

set_option maxRecDepth 100000
theorem szBits (c : BitsD) (v : Value) (left : Int) (w : World) (hv : BitsAt w v c) (hl : 0 ≤ left) (hm : left ≤ 1048576) (hn : c.2.length ≤ 9223372036854775807) :
    Calls Try.prog 6 #[v, .int .i64 left] w fun e w' => e = .returned (.int .i64 (leftOf left c.2.length)) ∧ Kept w w' := by
  obtain ⟨ao, cap, hfm⟩ := hv.form
  subst hfm
  have hr := hv.row
  by_cases hc : left < (c.2.length : Int)
  · go_enter Try.func6, Try.ntmps6
    repeat (first | go_values | go_skip | go_guarded | go_step | go_upon)
    go_at_call 17
    refine (szBytS c.2 _ _ _ (hr.kept ((But.refl _ _ _).alloc _)) hl hm hn).mono ?_
    rintro e u1 ⟨rfl, k1⟩
    rw [leftOf_no (by omega)]
    dsimp only
    repeat (first | go_values | go_skip | go_guarded | go_step | go_upon)
    go_ret
    exact ⟨ret_int (leftOf_no (by omega)).symm, ((But.refl _ _ _).alloc _).trans k1⟩
  · have hc2 : decide (left - (c.2.length : Int) < 0) = false := by simp; omega
    go_enter Try.func6, Try.ntmps6
    repeat (first | go_values | go_skip | go_guarded | go_step | go_upon)
    go_at_call 17
    refine (szBytS c.2 _ _ _ (hr.kept ((But.refl _ _ _).alloc _)) hl hm hn).mono ?_
    rintro e u1 ⟨rfl, k1⟩
    rw [leftOf_yes (by omega)]
    dsimp only
    repeat (first | go_values | go_skip | go_guarded | go_step | go_upon)
    go_ret
    exact ⟨ret_int (leftOf_yes (by omega)).symm, ((But.refl _ _ _).alloc _).trans k1⟩


theorem toBits (c : BitsD) (v : Value) (w : World) (hv : BitsAt w v c) (hl : c.2.length ≤ 1048576) :
    Calls Try.prog 8 #[v] w fun e w' => ∃ v', e = .returned v' ∧ BitsO w' w.heap.size w'.heap.size v' c ∧ Kept w w' := by
  obtain ⟨ao, cap, hfm⟩ := hv.form
  subst hfm
  have hr := hv.row
  go_enter Try.func8, Try.ntmps8
  go_wp2_with (go_at_call 19; refine (toBytS c.2 _ _ (hr.kept ((((But.refl _ _ _).alloc _).alloc _).alloc _)) hl).mono ?_
               rintro e w' ⟨v', rfl, ho, hk⟩
               obtain ⟨ao', cap', hf⟩ := ho.form
               subst hf
               have K : Kept w w' := ((((But.refl _ _ _).alloc _).alloc _).alloc _).trans hk
               have L1 := (((Loc.new _ [.int .i64 0, .slice none 0 0] 27).alloc _).kept hk)
               have L2 := (Loc.new _ [.int .i64 c.1, .slice none 0 0] 27).kept hk
               simp only [World.size_alloc] at L1 L2 ho
               have f0 := L1.cell 0 rfl
               have f6 := L1.cell 1 rfl
               have f3 := L2.cell 0 rfl
               have f7 := L2.cell 1 rfl
               have g0 := L1.frozen 0
               have g3 := L1.frozen 1
               have g5 := L2.frozen 1
               have ho : Hid _ := ho
               have K : Hid _ := K
               clear hk L1 L2)
  have B : But w.heap.size (w.heap.size + 3) w' (((w'.setCell ⟨w.heap.size + 1 + 1, 1, none⟩ (.slice ao' c.2.length cap')).setCell ⟨w.heap.size + 1, 0, none⟩ (.int .i64 c.1)).setCell ⟨w.heap.size + 1, 1, none⟩ (.slice ao' c.2.length cap')) :=
    (((But.refl _ _ _).setCell (by simp; omega) (by simp) _).setCell (by simp) (by simp) _).setCell (by simp) (by simp) _
  refine bodyPost_ret (v := .agg #[.int .i64 c.1, .slice ao' c.2.length cap']) (by simp [results, Try.results8, go_sem, f0, f6]) rfl ?_
  exact ⟨_, rfl, ⟨_, rfl, ((ho.out.but B (by omega)).mono (by omega) B.size).low⟩, (K.out.onto B (Nat.le_refl _))⟩

theorem eqBits (c : BitsD) (v v' : Value) (w : World) (hv : BitsAt w v c) (hv' : BitsAt w v' c) (hn : c.2.length ≤ 9000000000000000000) :
    Calls Try.prog 10 #[v, v'] w fun e w' => e = .returned (.bool true) ∧ Kept w w' := by
  obtain ⟨ao, cap, hfm⟩ := hv.form
  subst hfm
  obtain ⟨ao', cap', hfm⟩ := hv'.form
  subst hfm
  have hr := hv.row
  have hr' := hv'.row
  go_enter Try.func10, Try.ntmps10
  repeat (first | go_values | go_skip | go_guarded | go_step | go_upon)
  go_at_call 20
  refine (eqBytS c.2 _ _ _ (hr.kept (((But.refl _ _ _).alloc _).alloc _)) (hr'.kept (((But.refl _ _ _).alloc _).alloc _)) hn).mono ?_
  rintro e u1 ⟨rfl, k1⟩
  dsimp only
  repeat (first | go_values | go_skip | go_guarded | go_step | go_upon)
  go_ret
  exact ⟨rfl, (((But.refl _ _ _).alloc _).alloc _).trans k1⟩

end Go.Proofs.Ytaadlhcpgjibeaa
