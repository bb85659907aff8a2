/-
  What DropPart answers in the specification.
-/
import Derived.Test.YtefiaefjldfbjaaReach
namespace Go.Proofs.Ytefiaefjldfbjaa
open Go.ChangeShapes Go.WideShapes Go.ChangeAt Go.RowKit

set_option maxHeartbeats 4000000 in
theorem specDropBad (D : WD) (id : Int) (nm : ByteArray) (hg : ¬ GoodW D) (hc : ecost D.2.2 ≤ 1048576) (u : World) (lo hi : Nat) (v : Value) (ho : WO u lo hi v D) :
    Calls Try.prog 34 #[v, .int .i64 id, .string nm] u fun e u' => ∃ v', e = .returned (.tuple #[v', .int .i64 1]) ∧ WO u' u.heap.size u'.heap.size v' DZ ∧ Kept u u' := by
  obtain ⟨ao, n, cap, hfm⟩ := ho.form
  subst hfm
  have hA := ho.at
  go_enter Try.func34, Try.ntmps34
  go_wp2_with (first
    | (go_at_call 25; refine (good_no (specGood D _ _ (hA.kept (((But.refl _ _ u).alloc _).alloc _)) hc) hg).mono ?_; rintro e u1 ⟨rfl, k1⟩
       have K1 : Kept u u1 := (((But.refl _ _ u).alloc _).alloc _).trans k1
       have L0 := ((Loc.new u [.int .i64 D.1, .int .i64 D.2.1, .slice ao n cap] 25).alloc _).kept k1
       have L1 := (Loc.new (u.alloc (.cells #[.int .i64 D.1, .int .i64 D.2.1, .slice ao n cap] 25)) [.int .i64 0, .int .i64 0, .slice none 0 0] 25).kept k1
       simp only [World.size_alloc] at L1
       have x0 := L0.cell 0 rfl
       have x1 := L0.cell 1 rfl
       have x2 := L0.cell 2 rfl
       have xf0 := L0.frozen 0
       have xf1 := L0.frozen 1
       have xf2 := L0.frozen 2
       have y0 := L1.cell 0 rfl
       have y1 := L1.cell 1 rfl
       have y2 := L1.cell 2 rfl
       have yf0 := L1.frozen 0
       have yf1 := L1.frozen 1
       have yf2 := L1.frozen 2
       have HL0 : Hid _ := L0
       have HL1 : Hid _ := L1
       have HK1 : Hid _ := K1
       clear k1 L0 L1 K1))
  have B : But u.heap.size (u.heap.size + 2) u1 (((u1.setCell ⟨u.heap.size + 1, 0, none⟩ (.int .i64 0)).setCell ⟨u.heap.size + 1, 1, none⟩ (.int .i64 0)).setCell ⟨u.heap.size + 1, 2, none⟩ (.slice none 0 0)) :=
    (((But.refl _ _ _).setCell (by simp) (by simp) _).setCell (by simp) (by simp) _).setCell (by simp) (by simp) _
  refine bodyPost_ret (v := .tuple #[.agg #[.int .i64 0, .int .i64 0, .slice none 0 0], .int .i64 1]) (by simp [results, Try.results34, go_sem, y0, y1, y2]) rfl ?_
  exact ⟨_, rfl, wo_zero _ _ _, HK1.out.onto B (Nat.le_refl _)⟩

set_option maxHeartbeats 4000000 in
theorem specDropName (D : WD) (id : Int) (nm : ByteArray) (hg : GoodW D) (hnl : nm.size ≤ 1048576) (hnm : nameB nm = false) (hc : ecost D.2.2 ≤ 1048576) (u : World) (lo hi : Nat) (v : Value) (ho : WO u lo hi v D) :
    Calls Try.prog 34 #[v, .int .i64 id, .string nm] u fun e u' => ∃ v', e = .returned (.tuple #[v', .int .i64 4]) ∧ WO u' u.heap.size u'.heap.size v' D ∧ Kept u u' := by
  obtain ⟨ao, n, cap, hfm⟩ := ho.form
  subst hfm
  have hA := ho.at
  go_enter Try.func34, Try.ntmps34
  go_wp2_with (first
    | (go_at_call 25; refine (good_yes (specGood D _ _ (hA.kept (((But.refl _ _ u).alloc _).alloc _)) hc) hg).mono ?_; rintro e u1 ⟨rfl, k1⟩
       have K1 : Kept u u1 := (((But.refl _ _ u).alloc _).alloc _).trans k1
       have L0 := ((Loc.new u [.int .i64 D.1, .int .i64 D.2.1, .slice ao n cap] 25).alloc _).kept k1
       have L1 := (Loc.new (u.alloc (.cells #[.int .i64 D.1, .int .i64 D.2.1, .slice ao n cap] 25)) [.int .i64 0, .int .i64 0, .slice none 0 0] 25).kept k1
       simp only [World.size_alloc] at L1
       have x0 := L0.cell 0 rfl
       have x1 := L0.cell 1 rfl
       have x2 := L0.cell 2 rfl
       have xf0 := L0.frozen 0
       have xf1 := L0.frozen 1
       have xf2 := L0.frozen 2
       have y0 := L1.cell 0 rfl
       have y1 := L1.cell 1 rfl
       have y2 := L1.cell 2 rfl
       have yf0 := L1.frozen 0
       have yf1 := L1.frozen 1
       have yf2 := L1.frozen 2
       have HL0 : Hid _ := L0
       have HL1 : Hid _ := L1
       have HK1 : Hid _ := K1
       clear k1 L0 L1 K1)
    | (go_at_call 72; refine (specOwn D _ _ (hA.kept HK1.out) hc).mono ?_; rintro e u2 ⟨v2, rfl, o2, k2⟩
       obtain ⟨ao2, n2, cap2, hfm2⟩ := o2.form
       subst hfm2
       obtain ⟨zs, hzn, hen, hst⟩ := o2.ents
       have h60 : zs.length ≤ 60 := by
         have h5 := hg.2.2.2.2.1
         have := congrArg List.length hst
         rw [List.length_map] at this
         omega
       subst hzn
       have HEN : Hid (EntsO u2 u1.heap.size u2.heap.size (.slice ao2 zs.length cap2) zs ∧ zs.map strip = D.2.2) := ⟨hen, hst⟩
       have hbase := Loc.lt HL1.out
       have hbase2 := k2.size
       clear hen hst
       have HBX : Hid (But u.heap.size (u.heap.size + 2) u2 (((u2.setCell ⟨u.heap.size, 0, none⟩ (.int .i64 D.1)).setCell ⟨u.heap.size, 1, none⟩ (.int .i64 D.2.1)).setCell ⟨u.heap.size, 2, none⟩ (.slice ao2 zs.length cap2))) := (((But.refl _ _ _).setCell (by simp) (by simp) _).setCell (by simp) (by simp) _).setCell (by simp) (by simp) _
       have HKX : Hid (Kept u (((u2.setCell ⟨u.heap.size, 0, none⟩ (.int .i64 D.1)).setCell ⟨u.heap.size, 1, none⟩ (.int .i64 D.2.1)).setCell ⟨u.heap.size, 2, none⟩ (.slice ao2 zs.length cap2))) := (HK1.out.trans k2).onto HBX.out (Nat.le_refl _)
       have HEX : Hid (EntsO (((u2.setCell ⟨u.heap.size, 0, none⟩ (.int .i64 D.1)).setCell ⟨u.heap.size, 1, none⟩ (.int .i64 D.2.1)).setCell ⟨u.heap.size, 2, none⟩ (.slice ao2 zs.length cap2)) u1.heap.size u2.heap.size (.slice ao2 zs.length cap2) zs) := HEN.out.1.but HBX.out (.inr (by omega))
       have K2 := HK1.out.trans k2
       have L0 := Loc.kept HL0.out k2
       have L1 := Loc.kept HL1.out k2
       have s2 := HK1.out.size
       have s3 := k2.size
       have s4 := L1.lt
       have s6 := L0.lt
       have s5 := Loc.lt HL1.out
       clear x0 x1 x2 xf0 xf1 xf2 y0 y1 y2 yf0 yf1 yf2 HL0 HL1 HK1 k2
       have x0 := L0.cell 0 rfl
       have x1 := L0.cell 1 rfl
       have x2 := L0.cell 2 rfl
       have xf0 := L0.frozen 0
       have xf1 := L0.frozen 1
       have xf2 := L0.frozen 2
       have y0 := L1.cell 0 rfl
       have y1 := L1.cell 1 rfl
       have y2 := L1.cell 2 rfl
       have yf0 := L1.frozen 0
       have yf1 := L1.frozen 1
       have yf2 := L1.frozen 2
       have C3 : Loc (((u2.setCell ⟨u.heap.size, 0, none⟩ (.int .i64 D.1)).setCell ⟨u.heap.size, 1, none⟩ (.int .i64 D.2.1)).setCell ⟨u.heap.size, 2, none⟩ (.slice ao2 zs.length cap2)) u.heap.size [.int .i64 D.1, .int .i64 D.2.1, .slice ao2 zs.length cap2] := ((L0.set 0 (.int .i64 D.1)).set 1 (.int .i64 D.2.1)).set 2 (.slice ao2 zs.length cap2)
       have R3 : Loc (((u2.setCell ⟨u.heap.size, 0, none⟩ (.int .i64 D.1)).setCell ⟨u.heap.size, 1, none⟩ (.int .i64 D.2.1)).setCell ⟨u.heap.size, 2, none⟩ (.slice ao2 zs.length cap2)) (u.heap.size + 1) [.int .i64 0, .int .i64 0, .slice none 0 0] := ((L1.other (by omega) _).other (by omega) _).other (by omega) _
       have c30 := C3.cell 0 rfl
       have c31 := C3.cell 1 rfl
       have c32 := C3.cell 2 rfl
       have c3f0 := C3.frozen 0
       have c3f1 := C3.frozen 1
       have c3f2 := C3.frozen 2
       have r30 := R3.cell 0 rfl
       have r31 := R3.cell 1 rfl
       have r32 := R3.cell 2 rfl
       have r3f0 := R3.frozen 0
       have r3f1 := R3.frozen 1
       have r3f2 := R3.frozen 2
       have HC3 : Hid _ := C3
       have HR3 : Hid _ := R3
       clear C3 R3
       have HL0 : Hid _ := L0
       have HL1 : Hid _ := L1
       have HK2 : Hid _ := K2
       have HO2 : Hid _ := o2
       clear L0 L1 K2 o2)
    | (go_at_call 69; refine (sname _ _ hnl).mono ?_; rintro e w9 ⟨rfl, rfl⟩))
  have B : But u.heap.size (u.heap.size + 2) u2 ((((((u2.setCell ⟨u.heap.size, 0, none⟩ (.int .i64 D.1)).setCell ⟨u.heap.size, 1, none⟩ (.int .i64 D.2.1)).setCell ⟨u.heap.size, 2, none⟩ (.slice ao2 zs.length cap2)).setCell ⟨u.heap.size + 1, 0, none⟩ (.int .i64 D.1)).setCell ⟨u.heap.size + 1, 1, none⟩ (.int .i64 D.2.1)).setCell ⟨u.heap.size + 1, 2, none⟩ (.slice ao2 zs.length cap2)) := ((((((But.refl _ _ _).setCell (by simp) (by simp) _).setCell (by simp) (by simp) _).setCell (by simp) (by simp) _).setCell (by simp) (by simp) _).setCell (by simp) (by simp) _).setCell (by simp) (by simp) _
  refine bodyPost_ret (v := .tuple #[.agg #[.int .i64 D.1, .int .i64 D.2.1, .slice ao2 zs.length cap2], .int .i64 4]) (by simp [results, Try.results34, go_sem, r30, r31, r32]) rfl ?_
  exact ⟨_, rfl, ⟨_, zs, rfl, ((HEN.out.1.but B (by omega)).mono (by omega) B.size).low, HEN.out.2⟩, HK2.out.onto B (by omega)⟩

set_option maxHeartbeats 4000000 in
theorem specDropNone (D : WD) (id : Int) (nm : ByteArray) (hg : GoodW D) (hnl : nm.size ≤ 1048576) (hnm : nameB nm = true) (hno : ∀ e ∈ D.2.2, e.1 ≠ id) (hc : ecost D.2.2 ≤ 1048576) (u : World) (lo hi : Nat) (v : Value) (ho : WO u lo hi v D) :
    Calls Try.prog 34 #[v, .int .i64 id, .string nm] u fun e u' => ∃ v', e = .returned (.tuple #[v', .int .i64 2]) ∧ WO u' u.heap.size u'.heap.size v' D ∧ Kept u u' := by
  obtain ⟨ao, n, cap, hfm⟩ := ho.form
  subst hfm
  have hA := ho.at
  have HN : Hid _ := hno
  clear hno
  go_enter Try.func34, Try.ntmps34
  go_wp2_with (first
    | (go_at_call 25; refine (good_yes (specGood D _ _ (hA.kept (((But.refl _ _ u).alloc _).alloc _)) hc) hg).mono ?_; rintro e u1 ⟨rfl, k1⟩
       have K1 : Kept u u1 := (((But.refl _ _ u).alloc _).alloc _).trans k1
       have L0 := ((Loc.new u [.int .i64 D.1, .int .i64 D.2.1, .slice ao n cap] 25).alloc _).kept k1
       have L1 := (Loc.new (u.alloc (.cells #[.int .i64 D.1, .int .i64 D.2.1, .slice ao n cap] 25)) [.int .i64 0, .int .i64 0, .slice none 0 0] 25).kept k1
       simp only [World.size_alloc] at L1
       have x0 := L0.cell 0 rfl
       have x1 := L0.cell 1 rfl
       have x2 := L0.cell 2 rfl
       have xf0 := L0.frozen 0
       have xf1 := L0.frozen 1
       have xf2 := L0.frozen 2
       have y0 := L1.cell 0 rfl
       have y1 := L1.cell 1 rfl
       have y2 := L1.cell 2 rfl
       have yf0 := L1.frozen 0
       have yf1 := L1.frozen 1
       have yf2 := L1.frozen 2
       have HL0 : Hid _ := L0
       have HL1 : Hid _ := L1
       have HK1 : Hid _ := K1
       clear k1 L0 L1 K1)
    | (go_at_call 72; refine (specOwn D _ _ (hA.kept HK1.out) hc).mono ?_; rintro e u2 ⟨v2, rfl, o2, k2⟩
       obtain ⟨ao2, n2, cap2, hfm2⟩ := o2.form
       subst hfm2
       obtain ⟨zs, hzn, hen, hst⟩ := o2.ents
       have h60 : zs.length ≤ 60 := by
         have h5 := hg.2.2.2.2.1
         have := congrArg List.length hst
         rw [List.length_map] at this
         omega
       subst hzn
       have HEN : Hid (EntsO u2 u1.heap.size u2.heap.size (.slice ao2 zs.length cap2) zs ∧ zs.map strip = D.2.2) := ⟨hen, hst⟩
       have hbase := Loc.lt HL1.out
       have hbase2 := k2.size
       clear hen hst
       have HBX : Hid (But u.heap.size (u.heap.size + 2) u2 (((u2.setCell ⟨u.heap.size, 0, none⟩ (.int .i64 D.1)).setCell ⟨u.heap.size, 1, none⟩ (.int .i64 D.2.1)).setCell ⟨u.heap.size, 2, none⟩ (.slice ao2 zs.length cap2))) := (((But.refl _ _ _).setCell (by simp) (by simp) _).setCell (by simp) (by simp) _).setCell (by simp) (by simp) _
       have HKX : Hid (Kept u (((u2.setCell ⟨u.heap.size, 0, none⟩ (.int .i64 D.1)).setCell ⟨u.heap.size, 1, none⟩ (.int .i64 D.2.1)).setCell ⟨u.heap.size, 2, none⟩ (.slice ao2 zs.length cap2))) := (HK1.out.trans k2).onto HBX.out (Nat.le_refl _)
       have HEX : Hid (EntsO (((u2.setCell ⟨u.heap.size, 0, none⟩ (.int .i64 D.1)).setCell ⟨u.heap.size, 1, none⟩ (.int .i64 D.2.1)).setCell ⟨u.heap.size, 2, none⟩ (.slice ao2 zs.length cap2)) u1.heap.size u2.heap.size (.slice ao2 zs.length cap2) zs) := HEN.out.1.but HBX.out (.inr (by omega))
       have K2 := HK1.out.trans k2
       have L0 := Loc.kept HL0.out k2
       have L1 := Loc.kept HL1.out k2
       have s2 := HK1.out.size
       have s3 := k2.size
       have s4 := L1.lt
       have s6 := L0.lt
       have s5 := Loc.lt HL1.out
       clear x0 x1 x2 xf0 xf1 xf2 y0 y1 y2 yf0 yf1 yf2 HL0 HL1 HK1 k2
       have x0 := L0.cell 0 rfl
       have x1 := L0.cell 1 rfl
       have x2 := L0.cell 2 rfl
       have xf0 := L0.frozen 0
       have xf1 := L0.frozen 1
       have xf2 := L0.frozen 2
       have y0 := L1.cell 0 rfl
       have y1 := L1.cell 1 rfl
       have y2 := L1.cell 2 rfl
       have yf0 := L1.frozen 0
       have yf1 := L1.frozen 1
       have yf2 := L1.frozen 2
       have C3 : Loc (((u2.setCell ⟨u.heap.size, 0, none⟩ (.int .i64 D.1)).setCell ⟨u.heap.size, 1, none⟩ (.int .i64 D.2.1)).setCell ⟨u.heap.size, 2, none⟩ (.slice ao2 zs.length cap2)) u.heap.size [.int .i64 D.1, .int .i64 D.2.1, .slice ao2 zs.length cap2] := ((L0.set 0 (.int .i64 D.1)).set 1 (.int .i64 D.2.1)).set 2 (.slice ao2 zs.length cap2)
       have R3 : Loc (((u2.setCell ⟨u.heap.size, 0, none⟩ (.int .i64 D.1)).setCell ⟨u.heap.size, 1, none⟩ (.int .i64 D.2.1)).setCell ⟨u.heap.size, 2, none⟩ (.slice ao2 zs.length cap2)) (u.heap.size + 1) [.int .i64 0, .int .i64 0, .slice none 0 0] := ((L1.other (by omega) _).other (by omega) _).other (by omega) _
       have c30 := C3.cell 0 rfl
       have c31 := C3.cell 1 rfl
       have c32 := C3.cell 2 rfl
       have c3f0 := C3.frozen 0
       have c3f1 := C3.frozen 1
       have c3f2 := C3.frozen 2
       have r30 := R3.cell 0 rfl
       have r31 := R3.cell 1 rfl
       have r32 := R3.cell 2 rfl
       have r3f0 := R3.frozen 0
       have r3f1 := R3.frozen 1
       have r3f2 := R3.frozen 2
       have HC3 : Hid _ := C3
       have HR3 : Hid _ := R3
       clear C3 R3
       have HL0 : Hid _ := L0
       have HL1 : Hid _ := L1
       have HK2 : Hid _ := K2
       have HO2 : Hid _ := o2
       clear L0 L1 K2 o2)
    | (go_at_call 69; refine (sname _ _ hnl).mono ?_; rintro e w9 ⟨rfl, rfl⟩)
    | (go_at_call 74; refine (l3At id zs _ _ _ _ HEX.out.at (by omega) (-1) (.inr ⟨fun z hz => HN.out (strip z) (by rw [← HEN.out.2]; exact List.mem_map_of_mem hz), rfl⟩)).mono ?_; rintro e u3 ⟨rfl, k3⟩
       have M0 := Loc.kept HC3.out k3
       have M1 := Loc.kept HR3.out k3
       have s7 := k3.size
       have m0 := M0.cell 0 rfl
       have m1 := M0.cell 1 rfl
       have m2 := M0.cell 2 rfl
       have mf0 := M0.frozen 0
       have mf1 := M0.frozen 1
       have mf2 := M0.frozen 2
       have p0 := M1.cell 0 rfl
       have p1 := M1.cell 1 rfl
       have p2 := M1.cell 2 rfl
       have pf0 := M1.frozen 0
       have pf1 := M1.frozen 1
       have pf2 := M1.frozen 2
       have HM0 : Hid _ := M0
       have HM1 : Hid _ := M1
       have HE3 : Hid _ := HEX.out.kept k3
       have HK3 : Hid _ := HKX.out.trans k3

       clear M0 M1 k3))
  have B : But u.heap.size (u.heap.size + 2) u3 (((u3.setCell ⟨u.heap.size + 1, 0, none⟩ (.int .i64 D.1)).setCell ⟨u.heap.size + 1, 1, none⟩ (.int .i64 D.2.1)).setCell ⟨u.heap.size + 1, 2, none⟩ (.slice ao2 zs.length cap2)) := (((But.refl _ _ _).setCell (by simp) (by simp) _).setCell (by simp) (by simp) _).setCell (by simp) (by simp) _
  refine bodyPost_ret (v := .tuple #[.agg #[.int .i64 D.1, .int .i64 D.2.1, .slice ao2 zs.length cap2], .int .i64 2]) (by simp [results, Try.results34, go_sem, p0, p1, p2]) rfl ?_
  exact ⟨_, rfl, ⟨_, zs, rfl, ((HE3.out.but B (by omega)).mono (by omega) (Nat.le_refl _)).low, HEN.out.2⟩, HK3.out.onto B (Nat.le_refl _)⟩

set_option maxHeartbeats 4000000 in
set_option maxRecDepth 100000 in
theorem specDropNoPart (D : WD) (id : Int) (nm : ByteArray) (k : Nat) (ee : ED) (hg : GoodW D) (hnl : nm.size ≤ 1048576) (hnm : nameB nm = true) (hk : D.2.2[k]? = some ee) (hid : ee.1 = id) (hno : ∀ p ∈ ee.2, p.1 ≠ nm) (hc : ecost D.2.2 ≤ 1048576) (u : World) (lo hi : Nat) (v : Value) (ho : WO u lo hi v D) :
    Calls Try.prog 34 #[v, .int .i64 id, .string nm] u fun e u' => ∃ v', e = .returned (.tuple #[v', .int .i64 2]) ∧ WO u' u.heap.size u'.heap.size v' D ∧ Kept u u' := by
  obtain ⟨ao, n, cap, hfm⟩ := ho.form
  subst hfm
  have hA := ho.at
  have HE : Hid (D.2.2[k]? = some ee ∧ ee.1 = id) := ⟨hk, hid⟩
  clear hk hid
  have HN : Hid _ := hno
  clear hno
  go_enter Try.func34, Try.ntmps34
  go_wp2_with (first
    | (go_at_call 25; refine (good_yes (specGood D _ _ (hA.kept (((But.refl _ _ u).alloc _).alloc _)) hc) hg).mono ?_; rintro e u1 ⟨rfl, k1⟩
       have K1 : Kept u u1 := (((But.refl _ _ u).alloc _).alloc _).trans k1
       have L0 := ((Loc.new u [.int .i64 D.1, .int .i64 D.2.1, .slice ao n cap] 25).alloc _).kept k1
       have L1 := (Loc.new (u.alloc (.cells #[.int .i64 D.1, .int .i64 D.2.1, .slice ao n cap] 25)) [.int .i64 0, .int .i64 0, .slice none 0 0] 25).kept k1
       simp only [World.size_alloc] at L1
       have x0 := L0.cell 0 rfl
       have x1 := L0.cell 1 rfl
       have x2 := L0.cell 2 rfl
       have xf0 := L0.frozen 0
       have xf1 := L0.frozen 1
       have xf2 := L0.frozen 2
       have y0 := L1.cell 0 rfl
       have y1 := L1.cell 1 rfl
       have y2 := L1.cell 2 rfl
       have yf0 := L1.frozen 0
       have yf1 := L1.frozen 1
       have yf2 := L1.frozen 2
       have HL0 : Hid _ := L0
       have HL1 : Hid _ := L1
       have HK1 : Hid _ := K1
       clear k1 L0 L1 K1)
    | (go_at_call 72; refine (specOwn D _ _ (hA.kept HK1.out) hc).mono ?_; rintro e u2 ⟨v2, rfl, o2, k2⟩
       obtain ⟨ao2, n2, cap2, hfm2⟩ := o2.form
       subst hfm2
       obtain ⟨zs, hzn, hen, hst⟩ := o2.ents
       have h60 : zs.length ≤ 60 := by
         have h5 := hg.2.2.2.2.1
         have := congrArg List.length hst
         rw [List.length_map] at this
         omega
       subst hzn
       have HEN : Hid (EntsO u2 u1.heap.size u2.heap.size (.slice ao2 zs.length cap2) zs ∧ zs.map strip = D.2.2) := ⟨hen, hst⟩
       have hbase := Loc.lt HL1.out
       have hbase2 := k2.size
       clear hen hst
       have HBX : Hid (But u.heap.size (u.heap.size + 2) u2 (((u2.setCell ⟨u.heap.size, 0, none⟩ (.int .i64 D.1)).setCell ⟨u.heap.size, 1, none⟩ (.int .i64 D.2.1)).setCell ⟨u.heap.size, 2, none⟩ (.slice ao2 zs.length cap2))) := (((But.refl _ _ _).setCell (by simp) (by simp) _).setCell (by simp) (by simp) _).setCell (by simp) (by simp) _
       have HKX : Hid (Kept u (((u2.setCell ⟨u.heap.size, 0, none⟩ (.int .i64 D.1)).setCell ⟨u.heap.size, 1, none⟩ (.int .i64 D.2.1)).setCell ⟨u.heap.size, 2, none⟩ (.slice ao2 zs.length cap2))) := (HK1.out.trans k2).onto HBX.out (Nat.le_refl _)
       have HEX : Hid (EntsO (((u2.setCell ⟨u.heap.size, 0, none⟩ (.int .i64 D.1)).setCell ⟨u.heap.size, 1, none⟩ (.int .i64 D.2.1)).setCell ⟨u.heap.size, 2, none⟩ (.slice ao2 zs.length cap2)) u1.heap.size u2.heap.size (.slice ao2 zs.length cap2) zs) := HEN.out.1.but HBX.out (.inr (by omega))
       have HZ : Hid (∃ z, zs[k]? = some z ∧ z.1 = id ∧ strip z = ee) := by
         have h1 := HE.out.1
         rw [← HEN.out.2, List.getElem?_map] at h1
         cases hz : zs[k]? with
         | none => rw [hz] at h1; cases h1
         | some z => rw [hz] at h1; simp at h1; exact ⟨z, rfl, by rw [← HE.out.2, ← h1]; rfl, h1⟩
       have K2 := HK1.out.trans k2
       have L0 := Loc.kept HL0.out k2
       have L1 := Loc.kept HL1.out k2
       have s2 := HK1.out.size
       have s3 := k2.size
       have s4 := L1.lt
       have s6 := L0.lt
       have s5 := Loc.lt HL1.out
       clear x0 x1 x2 xf0 xf1 xf2 y0 y1 y2 yf0 yf1 yf2 HL0 HL1 HK1 k2
       have x0 := L0.cell 0 rfl
       have x1 := L0.cell 1 rfl
       have x2 := L0.cell 2 rfl
       have xf0 := L0.frozen 0
       have xf1 := L0.frozen 1
       have xf2 := L0.frozen 2
       have y0 := L1.cell 0 rfl
       have y1 := L1.cell 1 rfl
       have y2 := L1.cell 2 rfl
       have yf0 := L1.frozen 0
       have yf1 := L1.frozen 1
       have yf2 := L1.frozen 2
       have C3 : Loc (((u2.setCell ⟨u.heap.size, 0, none⟩ (.int .i64 D.1)).setCell ⟨u.heap.size, 1, none⟩ (.int .i64 D.2.1)).setCell ⟨u.heap.size, 2, none⟩ (.slice ao2 zs.length cap2)) u.heap.size [.int .i64 D.1, .int .i64 D.2.1, .slice ao2 zs.length cap2] := ((L0.set 0 (.int .i64 D.1)).set 1 (.int .i64 D.2.1)).set 2 (.slice ao2 zs.length cap2)
       have R3 : Loc (((u2.setCell ⟨u.heap.size, 0, none⟩ (.int .i64 D.1)).setCell ⟨u.heap.size, 1, none⟩ (.int .i64 D.2.1)).setCell ⟨u.heap.size, 2, none⟩ (.slice ao2 zs.length cap2)) (u.heap.size + 1) [.int .i64 0, .int .i64 0, .slice none 0 0] := ((L1.other (by omega) _).other (by omega) _).other (by omega) _
       have c30 := C3.cell 0 rfl
       have c31 := C3.cell 1 rfl
       have c32 := C3.cell 2 rfl
       have c3f0 := C3.frozen 0
       have c3f1 := C3.frozen 1
       have c3f2 := C3.frozen 2
       have r30 := R3.cell 0 rfl
       have r31 := R3.cell 1 rfl
       have r32 := R3.cell 2 rfl
       have r3f0 := R3.frozen 0
       have r3f1 := R3.frozen 1
       have r3f2 := R3.frozen 2
       have HC3 : Hid _ := C3
       have HR3 : Hid _ := R3
       clear C3 R3
       have HL0 : Hid _ := L0
       have HL1 : Hid _ := L1
       have HK2 : Hid _ := K2
       have HO2 : Hid _ := o2
       clear L0 L1 K2 o2)
    | (go_at_call 69; refine (sname _ _ hnl).mono ?_; rintro e w9 ⟨rfl, rfl⟩)
    | (go_at_call 74; refine (l3At id zs _ _ _ _ HEX.out.at (by omega) (k : Nat) (.inl (by
         obtain ⟨z, hz, hid, _⟩ := HZ.out
         refine ⟨k, z, hz, hid, fun j y hj hy => ?_, rfl⟩
         have := rise_of hg HEN.out.2 j k y z hj hy hz
         omega))).mono ?_; rintro e u3 ⟨rfl, k3⟩
       have M0 := Loc.kept HC3.out k3
       have M1 := Loc.kept HR3.out k3
       have s7 := k3.size
       have m0 := M0.cell 0 rfl
       have m1 := M0.cell 1 rfl
       have m2 := M0.cell 2 rfl
       have mf0 := M0.frozen 0
       have mf1 := M0.frozen 1
       have mf2 := M0.frozen 2
       have p0 := M1.cell 0 rfl
       have p1 := M1.cell 1 rfl
       have p2 := M1.cell 2 rfl
       have pf0 := M1.frozen 0
       have pf1 := M1.frozen 1
       have pf2 := M1.frozen 2
       have HM0 : Hid _ := M0
       have HM1 : Hid _ := M1
       have HE3 : Hid _ := HEX.out.kept k3
       have HK3 : Hid _ := HKX.out.trans k3
       obtain ⟨z, hz, _, hze⟩ := HZ.out
       have hkl : k < zs.length := (List.getElem?_eq_some_iff.1 hz).1
       obtain ⟨g, cap9, hfg, hbs, _⟩ := own_cell HE3.out.row.1 (flat_get 2 ec ec_len zs k 0 z hz (by omega))
       cases hfg
       have hghi := HE3.out.row.2 g rfl
       obtain ⟨cc0, cc1, ccf⟩ := HE3.out.cells hz
       obtain ⟨aop, capp, hpf, _⟩ := own_form (HE3.out.parts k z hz).1
       rw [hpf] at cc1
       have hze2 : z.2.2 = ee.2 := congrArg (fun a : ED => a.2) hze
       have hl12 : z.2.2.length ≤ 12 := by rw [hze2]; exact (hg.2.2.2.2.2 k ee HE.out.1).2.2.2.1
       have HZ3 : Hid (zs[k]? = some z ∧ z.2.1 = .slice aop z.2.2.length capp ∧ z.2.2 = ee.2 ∧ strip z = ee) := ⟨hz, hpf, hze2, hze⟩
       have HPA : Hid (PartsAt u3 (.slice aop z.2.2.length capp) z.2.2) := by
         have h7 := (HE3.out.parts k z hz).at
         rw [hpf] at h7
         exact h7
       have ccf1 := ccf (k * 2 + 1)
       clear hz hpf hze hze2 ccf
       clear M0 M1 k3)
    | (go_at_call 58; refine (l3Part nm z.2.2 _ _ _ HPA.out (by omega) (-1) (.inr ⟨fun p hp => HN.out p (by rw [← HZ3.out.2.2.1]; exact hp), rfl⟩)).mono ?_; rintro e u4 ⟨rfl, k4⟩
       have N0 := Loc.kept HM0.out k4
       have N1 := Loc.kept HM1.out k4
       have s8 := k4.size
       have n0 := N0.cell 0 rfl
       have n1 := N0.cell 1 rfl
       have n2 := N0.cell 2 rfl
       have nf0 := N0.frozen 0
       have nf1 := N0.frozen 1
       have nf2 := N0.frozen 2
       have v0 := N1.cell 0 rfl
       have v1 := N1.cell 1 rfl
       have v2 := N1.cell 2 rfl
       have vf0 := N1.frozen 0
       have vf1 := N1.frozen 1
       have vf2 := N1.frozen 2
       have HN0 : Hid _ := N0
       have HN1 : Hid _ := N1
       have HE4 : Hid _ := HE3.out.kept k4
       have HK4 : Hid _ := HK3.out.trans k4
       have cd1 := Kept.cell k4 cc1
       clear N0 N1 k4))
  have B : But u.heap.size (u.heap.size + 2) u4 (((u4.setCell ⟨u.heap.size + 1, 0, none⟩ (.int .i64 D.1)).setCell ⟨u.heap.size + 1, 1, none⟩ (.int .i64 D.2.1)).setCell ⟨u.heap.size + 1, 2, none⟩ (.slice (some ⟨g, 0, none⟩) zs.length cap2)) := (((But.refl _ _ _).setCell (by simp) (by simp) _).setCell (by simp) (by simp) _).setCell (by simp) (by simp) _
  refine bodyPost_ret (v := .tuple #[.agg #[.int .i64 D.1, .int .i64 D.2.1, .slice (some ⟨g, 0, none⟩) zs.length cap2], .int .i64 2]) (by simp [results, Try.results34, go_sem, v0, v1, v2]) rfl ?_
  exact ⟨_, rfl, ⟨_, zs, rfl, ((HE4.out.but B (by omega)).mono (by omega) (Nat.le_refl _)).low, HEN.out.2⟩, HK4.out.onto B (Nat.le_refl _)⟩

set_option maxHeartbeats 4000000 in
set_option maxRecDepth 100000 in
theorem specDropOk (D : WD) (id : Int) (nm : ByteArray) (k : Nat) (ee : ED) (j : Nat) (p : PD) (hg : GoodW D) (hnl : nm.size ≤ 1048576) (hnm : nameB nm = true) (hk : D.2.2[k]? = some ee) (hid : ee.1 = id) (hj : ee.2[j]? = some p) (hpn : p.1 = nm) (hc : ecost D.2.2 ≤ 1048576) (u : World) (lo hi : Nat) (v : Value) (ho : WO u lo hi v D) :
    Calls Try.prog 34 #[v, .int .i64 id, .string nm] u fun e u' => ∃ v', e = .returned (.tuple #[v', .int .i64 0]) ∧ WO u' u.heap.size u'.heap.size v' (D.1, D.2.1, D.2.2.set k (ee.1, ee.2.eraseIdx j)) ∧ Kept u u' := by
  obtain ⟨ao, n, cap, hfm⟩ := ho.form
  subst hfm
  have hA := ho.at
  have HE : Hid (D.2.2[k]? = some ee ∧ ee.1 = id) := ⟨hk, hid⟩
  clear hk hid
  have HP : Hid (ee.2[j]? = some p ∧ p.1 = nm) := ⟨hj, hpn⟩
  clear hj hpn
  obtain ⟨i0, hi0, _, hz1, _⟩ := info_parts info89
  go_enter Try.func34, Try.ntmps34
  go_wp2_with (first
    | (go_at_call 25; refine (good_yes (specGood D _ _ (hA.kept (((But.refl _ _ u).alloc _).alloc _)) hc) hg).mono ?_; rintro e u1 ⟨rfl, k1⟩
       have K1 : Kept u u1 := (((But.refl _ _ u).alloc _).alloc _).trans k1
       have L0 := ((Loc.new u [.int .i64 D.1, .int .i64 D.2.1, .slice ao n cap] 25).alloc _).kept k1
       have L1 := (Loc.new (u.alloc (.cells #[.int .i64 D.1, .int .i64 D.2.1, .slice ao n cap] 25)) [.int .i64 0, .int .i64 0, .slice none 0 0] 25).kept k1
       simp only [World.size_alloc] at L1
       have x0 := L0.cell 0 rfl
       have x1 := L0.cell 1 rfl
       have x2 := L0.cell 2 rfl
       have xf0 := L0.frozen 0
       have xf1 := L0.frozen 1
       have xf2 := L0.frozen 2
       have y0 := L1.cell 0 rfl
       have y1 := L1.cell 1 rfl
       have y2 := L1.cell 2 rfl
       have yf0 := L1.frozen 0
       have yf1 := L1.frozen 1
       have yf2 := L1.frozen 2
       have HL0 : Hid _ := L0
       have HL1 : Hid _ := L1
       have HK1 : Hid _ := K1
       clear k1 L0 L1 K1)
    | (go_at_call 72; refine (specOwn D _ _ (hA.kept HK1.out) hc).mono ?_; rintro e u2 ⟨v2, rfl, o2, k2⟩
       obtain ⟨ao2, n2, cap2, hfm2⟩ := o2.form
       subst hfm2
       obtain ⟨zs, hzn, hen, hst⟩ := o2.ents
       have h60 : zs.length ≤ 60 := by
         have h5 := hg.2.2.2.2.1
         have := congrArg List.length hst
         rw [List.length_map] at this
         omega
       subst hzn
       have HEN : Hid (EntsO u2 u1.heap.size u2.heap.size (.slice ao2 zs.length cap2) zs ∧ zs.map strip = D.2.2) := ⟨hen, hst⟩
       have hbase := Loc.lt HL1.out
       have hbase2 := k2.size
       clear hen hst
       have HBX : Hid (But u.heap.size (u.heap.size + 2) u2 (((u2.setCell ⟨u.heap.size, 0, none⟩ (.int .i64 D.1)).setCell ⟨u.heap.size, 1, none⟩ (.int .i64 D.2.1)).setCell ⟨u.heap.size, 2, none⟩ (.slice ao2 zs.length cap2))) := (((But.refl _ _ _).setCell (by simp) (by simp) _).setCell (by simp) (by simp) _).setCell (by simp) (by simp) _
       have HKX : Hid (Kept u (((u2.setCell ⟨u.heap.size, 0, none⟩ (.int .i64 D.1)).setCell ⟨u.heap.size, 1, none⟩ (.int .i64 D.2.1)).setCell ⟨u.heap.size, 2, none⟩ (.slice ao2 zs.length cap2))) := (HK1.out.trans k2).onto HBX.out (Nat.le_refl _)
       have HEX : Hid (EntsO (((u2.setCell ⟨u.heap.size, 0, none⟩ (.int .i64 D.1)).setCell ⟨u.heap.size, 1, none⟩ (.int .i64 D.2.1)).setCell ⟨u.heap.size, 2, none⟩ (.slice ao2 zs.length cap2)) u1.heap.size u2.heap.size (.slice ao2 zs.length cap2) zs) := HEN.out.1.but HBX.out (.inr (by omega))
       have HZ : Hid (∃ z, zs[k]? = some z ∧ z.1 = id ∧ strip z = ee) := by
         have h1 := HE.out.1
         rw [← HEN.out.2, List.getElem?_map] at h1
         cases hz : zs[k]? with
         | none => rw [hz] at h1; cases h1
         | some z => rw [hz] at h1; simp at h1; exact ⟨z, rfl, by rw [← HE.out.2, ← h1]; rfl, h1⟩
       have K2 := HK1.out.trans k2
       have L0 := Loc.kept HL0.out k2
       have L1 := Loc.kept HL1.out k2
       have s2 := HK1.out.size
       have s3 := k2.size
       have s4 := L1.lt
       have s6 := L0.lt
       have s5 := Loc.lt HL1.out
       clear x0 x1 x2 xf0 xf1 xf2 y0 y1 y2 yf0 yf1 yf2 HL0 HL1 HK1 k2
       have x0 := L0.cell 0 rfl
       have x1 := L0.cell 1 rfl
       have x2 := L0.cell 2 rfl
       have xf0 := L0.frozen 0
       have xf1 := L0.frozen 1
       have xf2 := L0.frozen 2
       have y0 := L1.cell 0 rfl
       have y1 := L1.cell 1 rfl
       have y2 := L1.cell 2 rfl
       have yf0 := L1.frozen 0
       have yf1 := L1.frozen 1
       have yf2 := L1.frozen 2
       have C3 : Loc (((u2.setCell ⟨u.heap.size, 0, none⟩ (.int .i64 D.1)).setCell ⟨u.heap.size, 1, none⟩ (.int .i64 D.2.1)).setCell ⟨u.heap.size, 2, none⟩ (.slice ao2 zs.length cap2)) u.heap.size [.int .i64 D.1, .int .i64 D.2.1, .slice ao2 zs.length cap2] := ((L0.set 0 (.int .i64 D.1)).set 1 (.int .i64 D.2.1)).set 2 (.slice ao2 zs.length cap2)
       have R3 : Loc (((u2.setCell ⟨u.heap.size, 0, none⟩ (.int .i64 D.1)).setCell ⟨u.heap.size, 1, none⟩ (.int .i64 D.2.1)).setCell ⟨u.heap.size, 2, none⟩ (.slice ao2 zs.length cap2)) (u.heap.size + 1) [.int .i64 0, .int .i64 0, .slice none 0 0] := ((L1.other (by omega) _).other (by omega) _).other (by omega) _
       have c30 := C3.cell 0 rfl
       have c31 := C3.cell 1 rfl
       have c32 := C3.cell 2 rfl
       have c3f0 := C3.frozen 0
       have c3f1 := C3.frozen 1
       have c3f2 := C3.frozen 2
       have r30 := R3.cell 0 rfl
       have r31 := R3.cell 1 rfl
       have r32 := R3.cell 2 rfl
       have r3f0 := R3.frozen 0
       have r3f1 := R3.frozen 1
       have r3f2 := R3.frozen 2
       have HC3 : Hid _ := C3
       have HR3 : Hid _ := R3
       clear C3 R3
       have HL0 : Hid _ := L0
       have HL1 : Hid _ := L1
       have HK2 : Hid _ := K2
       have HO2 : Hid _ := o2
       clear L0 L1 K2 o2)
    | (go_at_call 69; refine (sname _ _ hnl).mono ?_; rintro e w9 ⟨rfl, rfl⟩)
    | (go_at_call 74; refine (l3At id zs _ _ _ _ HEX.out.at (by omega) (k : Nat) (.inl (by
         obtain ⟨z, hz, hid, _⟩ := HZ.out
         refine ⟨k, z, hz, hid, fun j y hj hy => ?_, rfl⟩
         have := rise_of hg HEN.out.2 j k y z hj hy hz
         omega))).mono ?_; rintro e u3 ⟨rfl, k3⟩
       have M0 := Loc.kept HC3.out k3
       have M1 := Loc.kept HR3.out k3
       have s7 := k3.size
       have m0 := M0.cell 0 rfl
       have m1 := M0.cell 1 rfl
       have m2 := M0.cell 2 rfl
       have mf0 := M0.frozen 0
       have mf1 := M0.frozen 1
       have mf2 := M0.frozen 2
       have p0 := M1.cell 0 rfl
       have p1 := M1.cell 1 rfl
       have p2 := M1.cell 2 rfl
       have pf0 := M1.frozen 0
       have pf1 := M1.frozen 1
       have pf2 := M1.frozen 2
       have HM0 : Hid _ := M0
       have HM1 : Hid _ := M1
       have HE3 : Hid _ := HEX.out.kept k3
       have HK3 : Hid _ := HKX.out.trans k3
       obtain ⟨z, hz, _, hze⟩ := HZ.out
       have hkl : k < zs.length := (List.getElem?_eq_some_iff.1 hz).1
       obtain ⟨g, cap9, hfg, hbs, _⟩ := own_cell HE3.out.row.1 (flat_get 2 ec ec_len zs k 0 z hz (by omega))
       cases hfg
       have hghi := HE3.out.row.2 g rfl
       obtain ⟨cc0, cc1, ccf⟩ := HE3.out.cells hz
       obtain ⟨aop, capp, hpf, _⟩ := own_form (HE3.out.parts k z hz).1
       rw [hpf] at cc1
       have hze2 : z.2.2 = ee.2 := congrArg (fun a : ED => a.2) hze
       have hl12 : z.2.2.length ≤ 12 := by rw [hze2]; exact (hg.2.2.2.2.2 k ee HE.out.1).2.2.2.1
       have HZ3 : Hid (zs[k]? = some z ∧ z.2.1 = .slice aop z.2.2.length capp ∧ z.2.2 = ee.2 ∧ strip z = ee) := ⟨hz, hpf, hze2, hze⟩
       have HPA : Hid (PartsAt u3 (.slice aop z.2.2.length capp) z.2.2) := by
         have h7 := (HE3.out.parts k z hz).at
         rw [hpf] at h7
         exact h7
       have ccf1 := ccf (k * 2 + 1)
       clear hz hpf hze hze2 ccf
       clear M0 M1 k3)
    | (go_at_call 58; refine (l3Part nm z.2.2 _ _ _ HPA.out (by omega) (j : Nat) (.inl (by refine ⟨j, p, by rw [HZ3.out.2.2.1]; exact HP.out.1, HP.out.2, fun i y hi hy e2 => ?_, rfl⟩; have h9 := riseP_of (hg.2.2.2.2.2 k ee HE.out.1).2.2.2 i j y p hi (by rw [← HZ3.out.2.2.1]; exact hy) HP.out.1; rw [e2, HP.out.2, less_irr] at h9; cases h9))).mono ?_; rintro e u4 ⟨rfl, k4⟩
       have N0 := Loc.kept HM0.out k4
       have N1 := Loc.kept HM1.out k4
       have s8 := k4.size
       have n0 := N0.cell 0 rfl
       have n1 := N0.cell 1 rfl
       have n2 := N0.cell 2 rfl
       have nf0 := N0.frozen 0
       have nf1 := N0.frozen 1
       have nf2 := N0.frozen 2
       have v0 := N1.cell 0 rfl
       have v1 := N1.cell 1 rfl
       have v2 := N1.cell 2 rfl
       have vf0 := N1.frozen 0
       have vf1 := N1.frozen 1
       have vf2 := N1.frozen 2
       have HN0 : Hid _ := N0
       have HN1 : Hid _ := N1
       have HE4 : Hid _ := HE3.out.kept k4
       have HK4 : Hid _ := HK3.out.trans k4
       have cd1 := Kept.cell k4 cc1
       clear N0 N1 k4))
  have hjp : z.2.2[j]? = some p := by rw [HZ3.out.2.2.1]; exact HP.out.1
  have hjl : j < z.2.2.length := (List.getElem?_eq_some_iff.1 hjp).1
  have hpo := HE4.out.parts k z HZ3.out.1
  rw [HZ3.out.2.1] at hpo
  obtain ⟨gp, cap8, hfp, hbp, _⟩ := own_cell hpo.1 (flat_get 3 pc pc_len z.2.2 j 0 p hjp (by omega))
  cases hfp
  have hown := hpo.1
  have hgphi := hpo.2 gp rfl
  rcases hown.2 with ⟨hv, _⟩ | ⟨g', cap', cur, hv, _, hgg, hnc, hcm, hsz, htk⟩
  · cases hv
  cases hv
  have hxl := hown.1
  have hne : g ≠ gp := fun e1 => (ap_types HE4.out.row hpo (by decide)) g rfl (by rw [e1]; rfl)
  have hcm' : capp ≤ 9223372036854775807 := hcm
  obtain ⟨news, hnews⟩ : ∃ news, news = (partCells z.2.2).drop ((j + 1) * 3) := ⟨_, rfl⟩
  have hlen : news.length = (z.2.2.length - (j + 1)) * 3 := by rw [hnews, List.length_drop, hxl]; omega
  obtain ⟨A, hA, hsrc⟩ : ∃ A : Addr, (if capp = j + 1 then some (⟨gp, 0, none⟩ : Addr) else some ⟨gp, (j + 1) * 3, none⟩) = some A ∧ Hid (∀ t u, news[t]? = some u → u4.drew.cell? (A.add t) = some u) := by
    by_cases h : capp = j + 1
    · refine ⟨⟨gp, 0, none⟩, by simp [h], fun t u hu => ?_⟩
      have h0 : news.length = 0 := by rw [hlen]; omega
      rw [List.length_eq_zero_iff.1 h0] at hu
      simp at hu
    · refine ⟨⟨gp, (j + 1) * 3, none⟩, by simp [h], fun t u hu => ?_⟩
      rw [hnews, List.getElem?_drop] at hu
      rw [Go.WideShapes.add_plain]
      obtain ⟨g2, c2, e2, _, hc2, _⟩ := own_cell hown hu
      cases e2
      exact hc2
  have q1 : Hid (news.length = (z.2.2.length - (j + 1)) * 3) := hlen
  have q2 : Hid (∀ u ∈ news, u.oneCell' = true) := fun u hu => pc_one z.2.2 u (by rw [hnews] at hu; exact List.mem_of_mem_drop hu)
  have q3 : Hid (u4.drew.heap[gp]? = some (.cells cur 89 (0, 0))) := hgg
  have q4 : Hid (j * 3 + news.length ≤ cur.size) := by
    show j * 3 + news.length ≤ cur.size
    rw [hlen, hsz]; omega
  obtain ⟨C1, hC1⟩ : ∃ C1, C1 = (cur.toList.take (j * 3) ++ news ++ cur.toList.drop (j * 3 + news.length)).toArray := ⟨_, rfl⟩
  obtain ⟨W1, hW1⟩ : ∃ W1, W1 = u4.drew.setRow gp C1 := ⟨_, rfl⟩
  have hW1g : W1.heap[gp]? = some (.cells C1 89 (0, 0)) := by rw [hW1]; exact setRow_heap u4.drew gp cur C1 89 _ hgg
  have X0 : W1 = u4.drew.setRow gp (cur.toList.take (j * 3) ++ news ++ cur.toList.drop (j * 3 + news.length)).toArray := by rw [hW1, hC1]
  have X : Hid _ := X0
  have hB1 : But gp (gp + 1) u4 W1 := by rw [hW1]; exact ((But.refl _ _ u4).drew).trans (setRow_but _ _ _)
  have hown1 : W1.ownsRow u1.heap.size 89 3 (.slice (some ⟨gp, 0, none⟩) (z.2.2.length - 1) capp) (z.2.2.length - 1) (partCells (z.2.2.eraseIdx j)) := by
    rw [partCells, flat_erase 3 pc pc_len]
    show W1.ownsRow u1.heap.size 89 3 (.slice (some ⟨gp, 0, none⟩) (z.2.2.length - 1) capp) (z.2.2.length - 1) ((partCells z.2.2).take (j * 3) ++ (partCells z.2.2).drop ((j + 1) * 3))
    rw [← hnews]
    exact own_shift hbp hW1g htk (by omega) (by rw [hsz]; omega) hC1 (by rw [hlen]; omega : j * 3 + news.length = (z.2.2.length - 1) * 3) (by rw [hsz]; omega) rfl (by omega) hcm hsz
  have hel : (z.2.2.eraseIdx j).length = z.2.2.length - 1 := by rw [List.length_eraseIdx, if_pos hjl]
  have E5 : EntsO (W1.setCell ⟨g, k * 2 + 1, none⟩ (.slice (some ⟨gp, 0, none⟩) (z.2.2.length - 1) capp)) u1.heap.size u2.heap.size (.slice (some ⟨g, 0, none⟩) zs.length cap2) (zs.set k (z.1, .slice (some ⟨gp, 0, none⟩) (z.2.2.length - 1) capp, z.2.2.eraseIdx j)) := HE4.out.swap rfl HZ3.out.1 HZ3.out.2.1 hB1 hown1 hel.symm
  have P0 := Loc.but HN0.out hB1 (by omega)
  have P1 := Loc.but HN1.out hB1 (by omega)
  have N0' : Loc (W1.setCell ⟨g, k * 2 + 1, none⟩ (.slice (some ⟨gp, 0, none⟩) (z.2.2.length - 1) capp)) u.heap.size [.int .i64 D.1, .int .i64 D.2.1, .slice (some ⟨g, 0, none⟩) zs.length cap2] := P0.other (by omega) _
  have N1' : Loc (W1.setCell ⟨g, k * 2 + 1, none⟩ (.slice (some ⟨gp, 0, none⟩) (z.2.2.length - 1) capp)) (u.heap.size + 1) [.int .i64 0, .int .i64 0, .slice none 0 0] := P1.other (by omega) _
  have K5 : Kept u (W1.setCell ⟨g, k * 2 + 1, none⟩ (.slice (some ⟨gp, 0, none⟩) (z.2.2.length - 1) capp)) := (HK4.out.onto hB1 (by omega)).onto ((But.refl _ _ W1).setCell (lo := g) (hi := g + 1) (by simp) (by simp) _) (by omega)
  have pp2 := P0.cell 2 rfl
  have cw1 := But.cell hB1 cd1 (by simp; omega)
  have cwf : W1.frozen? ⟨g, k * 2 + 1, none⟩ = false := by
    have h1 := (HE4.out.cells HZ3.out.1).2.2 (k * 2 + 1)
    exact (World.frozen?_of_block (a := ⟨g, k * 2 + 1, none⟩) (hB1.block g (by omega) (by omega))).trans h1
  have sz1 := hB1.size
  have HE5 : Hid _ := E5
  have HK5 : Hid _ := K5
  have HN0' : Hid _ := N0'
  have HN1' : Hid _ := N1'
  have HST : Hid _ := HEN.out.2
  have hA' : Hid _ := hA
  have hb1 : (0 : Int) ≤ (j : Int) + 1 := by omega
  have hb2 : (j : Int) + 1 ≤ (z.2.2.length : Int) := by omega
  have hb3 : (j : Int) ≤ (capp : Int) := by omega
  have hb4 : (0 : Int) ≤ (j : Int) := by omega
  have hb5 : (0 : Int) ≤ (k : Int) := by omega
  have hb6 : (k : Int) < (zs.length : Int) := by omega
  have hw1 : IntKind.i64.wrap ((j : Int) + 1) = (j : Int) + 1 := by rw [IntKind.wrap_i64]; omega
  clear X0 hA hC1 hW1 hW1g hgg htk hsz hnews hlen hown hown1 hB1 hcm hxl HE4 HK4 HE3 HK3 HM0 HM1 HN0 HN1 HBX HKX HEX HC3 HR3 HEN HZ HO2 HK2 E5 K5 N0' N1' P0 P1 hpo hjp hel HPA
  go_region_law (refine step_room rfl (.tmp 48) (.tmp 52) 34 rfl 89 i0 3 Try.underlying34 hi0 hz1 gp j capp cur q3.out (by simp [Act.eval, Act.put]) A (z.2.2.length - (j + 1)) (capp - (j + 1)) news (by simp [Act.eval, Act.put, hA'.out]) q1.out hsrc.out q2.out (by omega) q4.out ?_; rw [← X.out])
  all_goals
    rw [show j + (z.2.2.length - (j + 1)) = z.2.2.length - 1 by omega, hA'.out]
    have N0' := HN0'.out
    have N1' := HN1'.out
    have E5 := HE5.out
    have K5 := HK5.out
    generalize hw5 : (W1.setCell ⟨g, k * 2 + 1, none⟩ (.slice (some ⟨gp, 0, none⟩) (z.2.2.length - 1) capp)) = w5 at E5 K5 N0' N1' ⊢
    have n0 := Loc.cell N0' 0 rfl
    have n1 := Loc.cell N0' 1 rfl
    have n2' := Loc.cell N0' 2 rfl
    have v0 := Loc.cell N1' 0 rfl
    have v1 := Loc.cell N1' 1 rfl
    have v2 := Loc.cell N1' 2 rfl
    have vf0 := Loc.frozen N1' 0
    have vf1 := Loc.frozen N1' 1
    have vf2 := Loc.frozen N1' 2
    have HE6 : Hid _ := E5
    have HK6 : Hid _ := K5
    clear hw5 E5 K5 N0' N1' HE5 HK5 HN0' HN1'
    go_wp2
    have B : But u.heap.size (u.heap.size + 2) w5 (((w5.setCell ⟨u.heap.size + 1, 0, none⟩ (.int .i64 D.1)).setCell ⟨u.heap.size + 1, 1, none⟩ (.int .i64 D.2.1)).setCell ⟨u.heap.size + 1, 2, none⟩ (.slice (some ⟨g, 0, none⟩) zs.length cap2)) := (((But.refl _ _ _).setCell (by simp) (by simp) _).setCell (by simp) (by simp) _).setCell (by simp) (by simp) _
    refine bodyPost_ret (v := .tuple #[.agg #[.int .i64 D.1, .int .i64 D.2.1, .slice (some ⟨g, 0, none⟩) zs.length cap2], .int .i64 0]) (by simp [results, Try.results34, go_sem, v0, v1, v2]) rfl ?_
    refine ⟨_, rfl, ⟨_, zs.set k (z.1, .slice (some ⟨gp, 0, none⟩) (z.2.2.length - 1) capp, z.2.2.eraseIdx j), rfl, ((HE6.out.but B (by omega)).mono (by omega) (Nat.le_refl _)).low, ?_⟩, HK6.out.onto B (Nat.le_refl _)⟩
    rw [List.map_set, HST.out, ← HZ3.out.2.2.1, ← HZ3.out.2.2.2]
    rfl
end Go.Proofs.Ytefiaefjldfbjaa
