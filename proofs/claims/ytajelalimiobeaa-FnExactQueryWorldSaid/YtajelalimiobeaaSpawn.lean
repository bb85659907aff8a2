/-
  What Spawn answers, in the program and in its specification.
-/
import Derived.Test.YtajelalimiobeaaTick
namespace Go.Proofs.Ytajelalimiobeaa
open Go.ChangeShapes Go.WideShapes Go.ChangeAt Go.RowKit

theorem WAt.len {w : World} {a b : Value} {ao : Option Addr} {n cap : Nat} {D : WD} (h : WAt w (.agg #[a, b, .slice ao n cap]) D) : n = D.2.2.length := by
  obtain ⟨ev, zs, e, h1, h2⟩ := h
  obtain ⟨ao', cap', e'⟩ := row_nil h1.1
  rw [e'] at e
  simp only [Value.agg.injEq, Array.mk.injEq, List.cons.injEq, Value.slice.injEq] at e
  rw [← h2, List.length_map]
  exact e.2.2.1.2.1
set_option maxHeartbeats 4000000 in
theorem specSpawnBad (D : WD)  (hg : ¬ GoodW D) (hc : ecost D.2.2 ≤ 1048576) (u : World) (lo hi : Nat) (v : Value) (ho : WO u lo hi v D) :
    Calls Try.prog 28 #[v] u fun e u' => ∃ v', e = .returned (.tuple #[v', .int .i64 0, .int .i64 1]) ∧ WO u' u.heap.size u'.heap.size v' DZ ∧ Kept u u' := by
  obtain ⟨ao, n, cap, hfm⟩ := ho.form
  subst hfm
  have hA := ho.at
  go_enter Try.func28, Try.ntmps28
  go_wp2_with (first
    | (go_at_call 25; refine (good_no (specGood D _ _ (hA.kept (((But.refl _ _ u).alloc _).alloc _)) hc) hg).mono ?_; rintro e u1 ⟨rfl, k1⟩
       have K1 : Kept u u1 := (((But.refl _ _ u).alloc _).alloc _).trans k1
       have L0 := ((Loc.new u [.int .i64 D.1, .int .i64 D.2.1, .slice ao n cap] 25).alloc _).kept k1
       have L1 := (Loc.new (u.alloc (.cells #[.int .i64 D.1, .int .i64 D.2.1, .slice ao n cap] 25)) [.int .i64 0, .int .i64 0, .slice none 0 0] 25).kept k1
       simp only [World.size_alloc] at L1
       have x0 := L0.cell 0 rfl
       have x1 := L0.cell 1 rfl
       have x2 := L0.cell 2 rfl
       have xf0 := L0.frozen 0
       have xf1 := L0.frozen 1
       have xf2 := L0.frozen 2
       have y0 := L1.cell 0 rfl
       have y1 := L1.cell 1 rfl
       have y2 := L1.cell 2 rfl
       have yf0 := L1.frozen 0
       have yf1 := L1.frozen 1
       have yf2 := L1.frozen 2
       have HL0 : Hid _ := L0
       have HL1 : Hid _ := L1
       have HK1 : Hid _ := K1
       clear k1 L0 L1 K1))
  have B : But u.heap.size (u.heap.size + 2) u1 (((u1.setCell ⟨u.heap.size + 1, 0, none⟩ (.int .i64 0)).setCell ⟨u.heap.size + 1, 1, none⟩ (.int .i64 0)).setCell ⟨u.heap.size + 1, 2, none⟩ (.slice none 0 0)) :=
    (((But.refl _ _ _).setCell (by simp) (by simp) _).setCell (by simp) (by simp) _).setCell (by simp) (by simp) _
  refine bodyPost_ret (v := .tuple #[.agg #[.int .i64 0, .int .i64 0, .slice none 0 0], .int .i64 0, .int .i64 1]) (by simp [results, Try.results28, go_sem, y0, y1, y2]) rfl ?_
  exact ⟨_, rfl, wo_zero _ _ _, HK1.out.onto B (Nat.le_refl _)⟩

set_option maxHeartbeats 4000000 in
theorem implSpawnBad (D : WD)  (hg : ¬ GoodW D) (hc : ecost D.2.2 ≤ 1048576) (u : World) (lo hi : Nat) (v : Value) (ho : WO u lo hi v D) :
    Calls Try.prog 29 #[v] u fun e u' => ∃ v', e = .returned (.tuple #[v', .int .i64 0, .int .i64 1]) ∧ WO u' u.heap.size u'.heap.size v' DZ ∧ Kept u u' := by
  obtain ⟨ao, n, cap, hfm⟩ := ho.form
  subst hfm
  have hA := ho.at
  go_enter Try.func29, Try.ntmps29
  go_wp2_with (first
    | (go_at_call 27; refine (good_no (implGood D _ _ (hA.kept (((But.refl _ _ u).alloc _).alloc _)) hc) hg).mono ?_; rintro e u1 ⟨rfl, k1⟩
       have K1 : Kept u u1 := (((But.refl _ _ u).alloc _).alloc _).trans k1
       have L0 := ((Loc.new u [.int .i64 D.1, .int .i64 D.2.1, .slice ao n cap] 25).alloc _).kept k1
       have L1 := (Loc.new (u.alloc (.cells #[.int .i64 D.1, .int .i64 D.2.1, .slice ao n cap] 25)) [.int .i64 0, .int .i64 0, .slice none 0 0] 25).kept k1
       simp only [World.size_alloc] at L1
       have x0 := L0.cell 0 rfl
       have x1 := L0.cell 1 rfl
       have x2 := L0.cell 2 rfl
       have xf0 := L0.frozen 0
       have xf1 := L0.frozen 1
       have xf2 := L0.frozen 2
       have y0 := L1.cell 0 rfl
       have y1 := L1.cell 1 rfl
       have y2 := L1.cell 2 rfl
       have yf0 := L1.frozen 0
       have yf1 := L1.frozen 1
       have yf2 := L1.frozen 2
       have HL0 : Hid _ := L0
       have HL1 : Hid _ := L1
       have HK1 : Hid _ := K1
       clear k1 L0 L1 K1))
  have B : But u.heap.size (u.heap.size + 2) u1 (((u1.setCell ⟨u.heap.size + 1, 0, none⟩ (.int .i64 0)).setCell ⟨u.heap.size + 1, 1, none⟩ (.int .i64 0)).setCell ⟨u.heap.size + 1, 2, none⟩ (.slice none 0 0)) :=
    (((But.refl _ _ _).setCell (by simp) (by simp) _).setCell (by simp) (by simp) _).setCell (by simp) (by simp) _
  refine bodyPost_ret (v := .tuple #[.agg #[.int .i64 0, .int .i64 0, .slice none 0 0], .int .i64 0, .int .i64 1]) (by simp [results, Try.results29, go_sem, y0, y1, y2]) rfl ?_
  exact ⟨_, rfl, wo_zero _ _ _, HK1.out.onto B (Nat.le_refl _)⟩


set_option maxHeartbeats 4000000 in
theorem specSpawnFullA (D : WD)  (hg : GoodW D) (hw : ((D.2.2.length : Int) == 60) = true) (hc : ecost D.2.2 ≤ 1048576) (u : World) (lo hi : Nat) (v : Value) (ho : WO u lo hi v D) :
    Calls Try.prog 28 #[v] u fun e u' => ∃ v', e = .returned (.tuple #[v', .int .i64 0, .int .i64 3]) ∧ WO u' u.heap.size u'.heap.size v' D ∧ Kept u u' := by
  obtain ⟨ao, n, cap, hfm⟩ := ho.form
  subst hfm
  have hA := ho.at
  have hn60 : ((n : Int) == 60) = true := by rw [hA.len]; exact hw
  have HW : Hid _ := hw
  clear hw
  go_enter Try.func28, Try.ntmps28
  go_wp2_with (first
    | (go_at_call 25; refine (good_yes (specGood D _ _ (hA.kept (((But.refl _ _ u).alloc _).alloc _)) hc) hg).mono ?_; rintro e u1 ⟨rfl, k1⟩
       have K1 : Kept u u1 := (((But.refl _ _ u).alloc _).alloc _).trans k1
       have L0 := ((Loc.new u [.int .i64 D.1, .int .i64 D.2.1, .slice ao n cap] 25).alloc _).kept k1
       have L1 := (Loc.new (u.alloc (.cells #[.int .i64 D.1, .int .i64 D.2.1, .slice ao n cap] 25)) [.int .i64 0, .int .i64 0, .slice none 0 0] 25).kept k1
       simp only [World.size_alloc] at L1
       have x0 := L0.cell 0 rfl
       have x1 := L0.cell 1 rfl
       have x2 := L0.cell 2 rfl
       have xf0 := L0.frozen 0
       have xf1 := L0.frozen 1
       have xf2 := L0.frozen 2
       have y0 := L1.cell 0 rfl
       have y1 := L1.cell 1 rfl
       have y2 := L1.cell 2 rfl
       have yf0 := L1.frozen 0
       have yf1 := L1.frozen 1
       have yf2 := L1.frozen 2
       have HL0 : Hid _ := L0
       have HL1 : Hid _ := L1
       have HK1 : Hid _ := K1
       clear k1 L0 L1 K1)
    | (go_at_call 72; refine (specOwn D _ _ (hA.kept HK1.out) hc).mono ?_; rintro e u2 ⟨v2, rfl, o2, k2⟩
       obtain ⟨ao2, n2, cap2, hfm2⟩ := o2.form
       subst hfm2
       have hm60 : ((n2 : Int) == 60) = true := by rw [o2.at.len]; exact HW.out
       have K2 := HK1.out.trans k2
       have L0 := Loc.kept HL0.out k2
       have L1 := Loc.kept HL1.out k2
       have s2 := HK1.out.size
       have s3 := k2.size
       have s4 := L1.lt
       have s6 := L0.lt
       have s5 := Loc.lt HL1.out
       clear x0 x1 x2 xf0 xf1 xf2 y0 y1 y2 yf0 yf1 yf2 HL0 HL1 HK1 k2
       have x0 := L0.cell 0 rfl
       have x1 := L0.cell 1 rfl
       have x2 := L0.cell 2 rfl
       have xf0 := L0.frozen 0
       have xf1 := L0.frozen 1
       have xf2 := L0.frozen 2
       have y0 := L1.cell 0 rfl
       have y1 := L1.cell 1 rfl
       have y2 := L1.cell 2 rfl
       have yf0 := L1.frozen 0
       have yf1 := L1.frozen 1
       have yf2 := L1.frozen 2
       have C3 : Loc (((u2.setCell ⟨u.heap.size, 0, none⟩ (.int .i64 D.1)).setCell ⟨u.heap.size, 1, none⟩ (.int .i64 D.2.1)).setCell ⟨u.heap.size, 2, none⟩ (.slice ao2 n2 cap2)) u.heap.size [.int .i64 D.1, .int .i64 D.2.1, .slice ao2 n2 cap2] := ((L0.set 0 (.int .i64 D.1)).set 1 (.int .i64 D.2.1)).set 2 (.slice ao2 n2 cap2)
       have R3 : Loc (((u2.setCell ⟨u.heap.size, 0, none⟩ (.int .i64 D.1)).setCell ⟨u.heap.size, 1, none⟩ (.int .i64 D.2.1)).setCell ⟨u.heap.size, 2, none⟩ (.slice ao2 n2 cap2)) (u.heap.size + 1) [.int .i64 0, .int .i64 0, .slice none 0 0] := ((L1.other (by omega) _).other (by omega) _).other (by omega) _
       have c30 := C3.cell 0 rfl
       have c31 := C3.cell 1 rfl
       have c32 := C3.cell 2 rfl
       have c3f0 := C3.frozen 0
       have c3f1 := C3.frozen 1
       have c3f2 := C3.frozen 2
       have r30 := R3.cell 0 rfl
       have r31 := R3.cell 1 rfl
       have r32 := R3.cell 2 rfl
       have r3f0 := R3.frozen 0
       have r3f1 := R3.frozen 1
       have r3f2 := R3.frozen 2
       have HC3 : Hid _ := C3
       have HR3 : Hid _ := R3
       clear C3 R3
       have HL0 : Hid _ := L0
       have HL1 : Hid _ := L1
       have HK2 : Hid _ := K2
       have HO2 : Hid _ := o2
       clear L0 L1 K2 o2))
  have B : But u.heap.size (u.heap.size + 2) u2 ((((((u2.setCell ⟨u.heap.size, 0, none⟩ (.int .i64 D.1)).setCell ⟨u.heap.size, 1, none⟩ (.int .i64 D.2.1)).setCell ⟨u.heap.size, 2, none⟩ (.slice ao2 n2 cap2)).setCell ⟨u.heap.size + 1, 0, none⟩ (.int .i64 D.1)).setCell ⟨u.heap.size + 1, 1, none⟩ (.int .i64 D.2.1)).setCell ⟨u.heap.size + 1, 2, none⟩ (.slice ao2 n2 cap2)) := ((((((But.refl _ _ _).setCell (by simp) (by simp) _).setCell (by simp) (by simp) _).setCell (by simp) (by simp) _).setCell (by simp) (by simp) _).setCell (by simp) (by simp) _).setCell (by simp) (by simp) _
  refine bodyPost_ret (v := .tuple #[.agg #[.int .i64 D.1, .int .i64 D.2.1, .slice ao2 n2 cap2], .int .i64 0, .int .i64 3]) (by simp [results, Try.results28, go_sem, r30, r31, r32]) rfl ?_
  obtain ⟨ev, zs, he, h1, h2⟩ := HO2.out
  cases he
  exact ⟨_, rfl, ⟨_, zs, rfl, ((h1.but B (by omega)).mono (by omega) B.size).low, h2⟩, HK2.out.onto B (by omega)⟩

set_option maxHeartbeats 4000000 in
theorem specSpawnFullB (D : WD)  (hg : GoodW D) (hw : ((D.2.2.length : Int) == 60) = false) (hx : (D.1 == 1000000) = true) (hc : ecost D.2.2 ≤ 1048576) (u : World) (lo hi : Nat) (v : Value) (ho : WO u lo hi v D) :
    Calls Try.prog 28 #[v] u fun e u' => ∃ v', e = .returned (.tuple #[v', .int .i64 0, .int .i64 3]) ∧ WO u' u.heap.size u'.heap.size v' D ∧ Kept u u' := by
  obtain ⟨ao, n, cap, hfm⟩ := ho.form
  subst hfm
  have hA := ho.at
  have hn60 : ((n : Int) == 60) = false := by rw [hA.len]; exact hw
  have HW : Hid _ := hw
  clear hw
  go_enter Try.func28, Try.ntmps28
  go_wp2_with (first
    | (go_at_call 25; refine (good_yes (specGood D _ _ (hA.kept (((But.refl _ _ u).alloc _).alloc _)) hc) hg).mono ?_; rintro e u1 ⟨rfl, k1⟩
       have K1 : Kept u u1 := (((But.refl _ _ u).alloc _).alloc _).trans k1
       have L0 := ((Loc.new u [.int .i64 D.1, .int .i64 D.2.1, .slice ao n cap] 25).alloc _).kept k1
       have L1 := (Loc.new (u.alloc (.cells #[.int .i64 D.1, .int .i64 D.2.1, .slice ao n cap] 25)) [.int .i64 0, .int .i64 0, .slice none 0 0] 25).kept k1
       simp only [World.size_alloc] at L1
       have x0 := L0.cell 0 rfl
       have x1 := L0.cell 1 rfl
       have x2 := L0.cell 2 rfl
       have xf0 := L0.frozen 0
       have xf1 := L0.frozen 1
       have xf2 := L0.frozen 2
       have y0 := L1.cell 0 rfl
       have y1 := L1.cell 1 rfl
       have y2 := L1.cell 2 rfl
       have yf0 := L1.frozen 0
       have yf1 := L1.frozen 1
       have yf2 := L1.frozen 2
       have HL0 : Hid _ := L0
       have HL1 : Hid _ := L1
       have HK1 : Hid _ := K1
       clear k1 L0 L1 K1)
    | (go_at_call 72; refine (specOwn D _ _ (hA.kept HK1.out) hc).mono ?_; rintro e u2 ⟨v2, rfl, o2, k2⟩
       obtain ⟨ao2, n2, cap2, hfm2⟩ := o2.form
       subst hfm2
       have hm60 : ((n2 : Int) == 60) = false := by rw [o2.at.len]; exact HW.out
       have K2 := HK1.out.trans k2
       have L0 := Loc.kept HL0.out k2
       have L1 := Loc.kept HL1.out k2
       have s2 := HK1.out.size
       have s3 := k2.size
       have s4 := L1.lt
       have s6 := L0.lt
       have s5 := Loc.lt HL1.out
       clear x0 x1 x2 xf0 xf1 xf2 y0 y1 y2 yf0 yf1 yf2 HL0 HL1 HK1 k2
       have x0 := L0.cell 0 rfl
       have x1 := L0.cell 1 rfl
       have x2 := L0.cell 2 rfl
       have xf0 := L0.frozen 0
       have xf1 := L0.frozen 1
       have xf2 := L0.frozen 2
       have y0 := L1.cell 0 rfl
       have y1 := L1.cell 1 rfl
       have y2 := L1.cell 2 rfl
       have yf0 := L1.frozen 0
       have yf1 := L1.frozen 1
       have yf2 := L1.frozen 2
       have C3 : Loc (((u2.setCell ⟨u.heap.size, 0, none⟩ (.int .i64 D.1)).setCell ⟨u.heap.size, 1, none⟩ (.int .i64 D.2.1)).setCell ⟨u.heap.size, 2, none⟩ (.slice ao2 n2 cap2)) u.heap.size [.int .i64 D.1, .int .i64 D.2.1, .slice ao2 n2 cap2] := ((L0.set 0 (.int .i64 D.1)).set 1 (.int .i64 D.2.1)).set 2 (.slice ao2 n2 cap2)
       have R3 : Loc (((u2.setCell ⟨u.heap.size, 0, none⟩ (.int .i64 D.1)).setCell ⟨u.heap.size, 1, none⟩ (.int .i64 D.2.1)).setCell ⟨u.heap.size, 2, none⟩ (.slice ao2 n2 cap2)) (u.heap.size + 1) [.int .i64 0, .int .i64 0, .slice none 0 0] := ((L1.other (by omega) _).other (by omega) _).other (by omega) _
       have c30 := C3.cell 0 rfl
       have c31 := C3.cell 1 rfl
       have c32 := C3.cell 2 rfl
       have c3f0 := C3.frozen 0
       have c3f1 := C3.frozen 1
       have c3f2 := C3.frozen 2
       have r30 := R3.cell 0 rfl
       have r31 := R3.cell 1 rfl
       have r32 := R3.cell 2 rfl
       have r3f0 := R3.frozen 0
       have r3f1 := R3.frozen 1
       have r3f2 := R3.frozen 2
       have HC3 : Hid _ := C3
       have HR3 : Hid _ := R3
       clear C3 R3
       have HL0 : Hid _ := L0
       have HL1 : Hid _ := L1
       have HK2 : Hid _ := K2
       have HO2 : Hid _ := o2
       clear L0 L1 K2 o2))
  have B : But u.heap.size (u.heap.size + 2) u2 ((((((u2.setCell ⟨u.heap.size, 0, none⟩ (.int .i64 D.1)).setCell ⟨u.heap.size, 1, none⟩ (.int .i64 D.2.1)).setCell ⟨u.heap.size, 2, none⟩ (.slice ao2 n2 cap2)).setCell ⟨u.heap.size + 1, 0, none⟩ (.int .i64 D.1)).setCell ⟨u.heap.size + 1, 1, none⟩ (.int .i64 D.2.1)).setCell ⟨u.heap.size + 1, 2, none⟩ (.slice ao2 n2 cap2)) := ((((((But.refl _ _ _).setCell (by simp) (by simp) _).setCell (by simp) (by simp) _).setCell (by simp) (by simp) _).setCell (by simp) (by simp) _).setCell (by simp) (by simp) _).setCell (by simp) (by simp) _
  refine bodyPost_ret (v := .tuple #[.agg #[.int .i64 D.1, .int .i64 D.2.1, .slice ao2 n2 cap2], .int .i64 0, .int .i64 3]) (by simp [results, Try.results28, go_sem, r30, r31, r32]) rfl ?_
  obtain ⟨ev, zs, he, h1, h2⟩ := HO2.out
  cases he
  exact ⟨_, rfl, ⟨_, zs, rfl, ((h1.but B (by omega)).mono (by omega) B.size).low, h2⟩, HK2.out.onto B (by omega)⟩

set_option maxHeartbeats 4000000 in
theorem implSpawnFullA (D : WD)  (hg : GoodW D) (hw : ((D.2.2.length : Int) == 60) = true) (hc : ecost D.2.2 ≤ 1048576) (u : World) (lo hi : Nat) (v : Value) (ho : WO u lo hi v D) :
    Calls Try.prog 29 #[v] u fun e u' => ∃ v', e = .returned (.tuple #[v', .int .i64 0, .int .i64 3]) ∧ WO u' u.heap.size u'.heap.size v' D ∧ Kept u u' := by
  obtain ⟨ao, n, cap, hfm⟩ := ho.form
  subst hfm
  have hA := ho.at
  have hn60 : ((n : Int) == 60) = true := by rw [hA.len]; exact hw
  have HW : Hid _ := hw
  clear hw
  go_enter Try.func29, Try.ntmps29
  go_wp2_with (first
    | (go_at_call 27; refine (good_yes (implGood D _ _ (hA.kept (((But.refl _ _ u).alloc _).alloc _)) hc) hg).mono ?_; rintro e u1 ⟨rfl, k1⟩
       have K1 : Kept u u1 := (((But.refl _ _ u).alloc _).alloc _).trans k1
       have L0 := ((Loc.new u [.int .i64 D.1, .int .i64 D.2.1, .slice ao n cap] 25).alloc _).kept k1
       have L1 := (Loc.new (u.alloc (.cells #[.int .i64 D.1, .int .i64 D.2.1, .slice ao n cap] 25)) [.int .i64 0, .int .i64 0, .slice none 0 0] 25).kept k1
       simp only [World.size_alloc] at L1
       have x0 := L0.cell 0 rfl
       have x1 := L0.cell 1 rfl
       have x2 := L0.cell 2 rfl
       have xf0 := L0.frozen 0
       have xf1 := L0.frozen 1
       have xf2 := L0.frozen 2
       have y0 := L1.cell 0 rfl
       have y1 := L1.cell 1 rfl
       have y2 := L1.cell 2 rfl
       have yf0 := L1.frozen 0
       have yf1 := L1.frozen 1
       have yf2 := L1.frozen 2
       have HL0 : Hid _ := L0
       have HL1 : Hid _ := L1
       have HK1 : Hid _ := K1
       clear k1 L0 L1 K1)
    | (go_at_call 73; refine (implCopy D _ _ (hA.kept HK1.out) hc).mono ?_; rintro e u2 ⟨v2, rfl, o2, k2⟩
       obtain ⟨ao2, n2, cap2, hfm2⟩ := o2.form
       subst hfm2
       have hm60 : ((n2 : Int) == 60) = true := by rw [o2.at.len]; exact HW.out
       have K2 := HK1.out.trans k2
       have L0 := Loc.kept HL0.out k2
       have L1 := Loc.kept HL1.out k2
       have s2 := HK1.out.size
       have s3 := k2.size
       have s4 := L1.lt
       have s6 := L0.lt
       have s5 := Loc.lt HL1.out
       clear x0 x1 x2 xf0 xf1 xf2 y0 y1 y2 yf0 yf1 yf2 HL0 HL1 HK1 k2
       have x0 := L0.cell 0 rfl
       have x1 := L0.cell 1 rfl
       have x2 := L0.cell 2 rfl
       have xf0 := L0.frozen 0
       have xf1 := L0.frozen 1
       have xf2 := L0.frozen 2
       have y0 := L1.cell 0 rfl
       have y1 := L1.cell 1 rfl
       have y2 := L1.cell 2 rfl
       have yf0 := L1.frozen 0
       have yf1 := L1.frozen 1
       have yf2 := L1.frozen 2

       have HL0 : Hid _ := L0
       have HL1 : Hid _ := L1
       have HK2 : Hid _ := K2
       have HO2 : Hid _ := o2
       clear L0 L1 K2 o2))
  have B : But u.heap.size (u.heap.size + 2) u2 ((((u2.setCell ⟨u.heap.size + 1, 0, none⟩ (.int .i64 D.1)).setCell ⟨u.heap.size + 1, 1, none⟩ (.int .i64 D.2.1)).setCell ⟨u.heap.size + 1, 2, none⟩ (.slice ao2 n2 cap2)).alloc (.cells #[.int .i64 D.1, .int .i64 D.2.1, .slice ao2 n2 cap2] 25)) := ((((But.refl _ _ _).setCell (by simp) (by simp) _).setCell (by simp) (by simp) _).setCell (by simp) (by simp) _).alloc _
  refine bodyPost_ret (v := .tuple #[.agg #[.int .i64 D.1, .int .i64 D.2.1, .slice ao2 n2 cap2], .int .i64 0, .int .i64 3]) (by simp [results, Try.results29, go_sem, y0, y1, y2, s4]) rfl ?_
  obtain ⟨ev, zs, he, h1, h2⟩ := HO2.out
  cases he
  exact ⟨_, rfl, ⟨_, zs, rfl, ((h1.but B (by omega)).mono (by omega) B.size).low, h2⟩, HK2.out.onto B (by omega)⟩

set_option maxHeartbeats 4000000 in
theorem implSpawnFullB (D : WD)  (hg : GoodW D) (hw : ((D.2.2.length : Int) == 60) = false) (hx : (D.1 == 1000000) = true) (hc : ecost D.2.2 ≤ 1048576) (u : World) (lo hi : Nat) (v : Value) (ho : WO u lo hi v D) :
    Calls Try.prog 29 #[v] u fun e u' => ∃ v', e = .returned (.tuple #[v', .int .i64 0, .int .i64 3]) ∧ WO u' u.heap.size u'.heap.size v' D ∧ Kept u u' := by
  obtain ⟨ao, n, cap, hfm⟩ := ho.form
  subst hfm
  have hA := ho.at
  have hn60 : ((n : Int) == 60) = false := by rw [hA.len]; exact hw
  have HW : Hid _ := hw
  clear hw
  go_enter Try.func29, Try.ntmps29
  go_wp2_with (first
    | (go_at_call 27; refine (good_yes (implGood D _ _ (hA.kept (((But.refl _ _ u).alloc _).alloc _)) hc) hg).mono ?_; rintro e u1 ⟨rfl, k1⟩
       have K1 : Kept u u1 := (((But.refl _ _ u).alloc _).alloc _).trans k1
       have L0 := ((Loc.new u [.int .i64 D.1, .int .i64 D.2.1, .slice ao n cap] 25).alloc _).kept k1
       have L1 := (Loc.new (u.alloc (.cells #[.int .i64 D.1, .int .i64 D.2.1, .slice ao n cap] 25)) [.int .i64 0, .int .i64 0, .slice none 0 0] 25).kept k1
       simp only [World.size_alloc] at L1
       have x0 := L0.cell 0 rfl
       have x1 := L0.cell 1 rfl
       have x2 := L0.cell 2 rfl
       have xf0 := L0.frozen 0
       have xf1 := L0.frozen 1
       have xf2 := L0.frozen 2
       have y0 := L1.cell 0 rfl
       have y1 := L1.cell 1 rfl
       have y2 := L1.cell 2 rfl
       have yf0 := L1.frozen 0
       have yf1 := L1.frozen 1
       have yf2 := L1.frozen 2
       have HL0 : Hid _ := L0
       have HL1 : Hid _ := L1
       have HK1 : Hid _ := K1
       clear k1 L0 L1 K1)
    | (go_at_call 73; refine (implCopy D _ _ (hA.kept HK1.out) hc).mono ?_; rintro e u2 ⟨v2, rfl, o2, k2⟩
       obtain ⟨ao2, n2, cap2, hfm2⟩ := o2.form
       subst hfm2
       have hm60 : ((n2 : Int) == 60) = false := by rw [o2.at.len]; exact HW.out
       have K2 := HK1.out.trans k2
       have L0 := Loc.kept HL0.out k2
       have L1 := Loc.kept HL1.out k2
       have s2 := HK1.out.size
       have s3 := k2.size
       have s4 := L1.lt
       have s6 := L0.lt
       have s5 := Loc.lt HL1.out
       clear x0 x1 x2 xf0 xf1 xf2 y0 y1 y2 yf0 yf1 yf2 HL0 HL1 HK1 k2
       have x0 := L0.cell 0 rfl
       have x1 := L0.cell 1 rfl
       have x2 := L0.cell 2 rfl
       have xf0 := L0.frozen 0
       have xf1 := L0.frozen 1
       have xf2 := L0.frozen 2
       have y0 := L1.cell 0 rfl
       have y1 := L1.cell 1 rfl
       have y2 := L1.cell 2 rfl
       have yf0 := L1.frozen 0
       have yf1 := L1.frozen 1
       have yf2 := L1.frozen 2

       have HL0 : Hid _ := L0
       have HL1 : Hid _ := L1
       have HK2 : Hid _ := K2
       have HO2 : Hid _ := o2
       clear L0 L1 K2 o2))
  have B : But u.heap.size (u.heap.size + 2) u2 ((((u2.setCell ⟨u.heap.size + 1, 0, none⟩ (.int .i64 D.1)).setCell ⟨u.heap.size + 1, 1, none⟩ (.int .i64 D.2.1)).setCell ⟨u.heap.size + 1, 2, none⟩ (.slice ao2 n2 cap2)).alloc (.cells #[.int .i64 D.1, .int .i64 D.2.1, .slice ao2 n2 cap2] 25)) := ((((But.refl _ _ _).setCell (by simp) (by simp) _).setCell (by simp) (by simp) _).setCell (by simp) (by simp) _).alloc _
  refine bodyPost_ret (v := .tuple #[.agg #[.int .i64 D.1, .int .i64 D.2.1, .slice ao2 n2 cap2], .int .i64 0, .int .i64 3]) (by simp [results, Try.results29, go_sem, y0, y1, y2, s4]) rfl ?_
  obtain ⟨ev, zs, he, h1, h2⟩ := HO2.out
  cases he
  exact ⟨_, rfl, ⟨_, zs, rfl, ((h1.but B (by omega)).mono (by omega) B.size).low, h2⟩, HK2.out.onto B (by omega)⟩
end Go.Proofs.Ytajelalimiobeaa
