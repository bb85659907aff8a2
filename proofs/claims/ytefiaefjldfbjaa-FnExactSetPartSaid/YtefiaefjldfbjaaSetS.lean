/-
  What SetPart answers in the specification where it is refused at once.
-/
import Derived.Test.YtefiaefjldfbjaaReach
namespace Go.Proofs.Ytefiaefjldfbjaa
open Go.ChangeShapes Go.WideShapes Go.ChangeAt Go.RowKit

set_option maxHeartbeats 4000000 in
theorem specSetBad (D : WD) (id : Int) (nm : ByteArray) (val : Int) (hg : ¬ GoodW D) (hc : ecost D.2.2 ≤ 1048576) (u : World) (lo hi : Nat) (v : Value) (ho : WO u lo hi v D) :
    Calls Try.prog 32 #[v, .int .i64 id, .string nm, .int .i64 val] u fun e u' => ∃ v', e = .returned (.tuple #[v', .int .i64 1]) ∧ WO u' u.heap.size u'.heap.size v' DZ ∧ Kept u u' := by
  obtain ⟨ao, n, cap, hfm⟩ := ho.form
  subst hfm
  have hA := ho.at
  go_enter Try.func32, Try.ntmps32
  go_wp2_with (first
    | (go_at_call 25; refine (good_no (specGood D _ _ (hA.kept (((But.refl _ _ u).alloc _).alloc _)) hc) hg).mono ?_; rintro e u1 ⟨rfl, k1⟩
       have K1 : Kept u u1 := (((But.refl _ _ u).alloc _).alloc _).trans k1
       have L0 := ((Loc.new u [.int .i64 D.1, .int .i64 D.2.1, .slice ao n cap] 25).alloc _).kept k1
       have L1 := (Loc.new (u.alloc (.cells #[.int .i64 D.1, .int .i64 D.2.1, .slice ao n cap] 25)) [.int .i64 0, .int .i64 0, .slice none 0 0] 25).kept k1
       simp only [World.size_alloc] at L1
       have x0 := L0.cell 0 rfl
       have x1 := L0.cell 1 rfl
       have x2 := L0.cell 2 rfl
       have xf0 := L0.frozen 0
       have xf1 := L0.frozen 1
       have xf2 := L0.frozen 2
       have y0 := L1.cell 0 rfl
       have y1 := L1.cell 1 rfl
       have y2 := L1.cell 2 rfl
       have yf0 := L1.frozen 0
       have yf1 := L1.frozen 1
       have yf2 := L1.frozen 2
       have HL0 : Hid _ := L0
       have HL1 : Hid _ := L1
       have HK1 : Hid _ := K1
       clear k1 L0 L1 K1))
  have B : But u.heap.size (u.heap.size + 2) u1 (((u1.setCell ⟨u.heap.size + 1, 0, none⟩ (.int .i64 0)).setCell ⟨u.heap.size + 1, 1, none⟩ (.int .i64 0)).setCell ⟨u.heap.size + 1, 2, none⟩ (.slice none 0 0)) :=
    (((But.refl _ _ _).setCell (by simp) (by simp) _).setCell (by simp) (by simp) _).setCell (by simp) (by simp) _
  refine bodyPost_ret (v := .tuple #[.agg #[.int .i64 0, .int .i64 0, .slice none 0 0], .int .i64 1]) (by simp [results, Try.results32, go_sem, y0, y1, y2]) rfl ?_
  exact ⟨_, rfl, wo_zero _ _ _, HK1.out.onto B (Nat.le_refl _)⟩

set_option maxHeartbeats 4000000 in
theorem specSetName (D : WD) (id : Int) (nm : ByteArray) (val : Int) (hg : GoodW D) (hnl : nm.size ≤ 1048576) (hnm : nameB nm = false) (hc : ecost D.2.2 ≤ 1048576) (u : World) (lo hi : Nat) (v : Value) (ho : WO u lo hi v D) :
    Calls Try.prog 32 #[v, .int .i64 id, .string nm, .int .i64 val] u fun e u' => ∃ v', e = .returned (.tuple #[v', .int .i64 4]) ∧ WO u' u.heap.size u'.heap.size v' D ∧ Kept u u' := by
  obtain ⟨ao, n, cap, hfm⟩ := ho.form
  subst hfm
  have hA := ho.at
  go_enter Try.func32, Try.ntmps32
  go_wp2_with (first
    | (go_at_call 25; refine (good_yes (specGood D _ _ (hA.kept (((But.refl _ _ u).alloc _).alloc _)) hc) hg).mono ?_; rintro e u1 ⟨rfl, k1⟩
       have K1 : Kept u u1 := (((But.refl _ _ u).alloc _).alloc _).trans k1
       have L0 := ((Loc.new u [.int .i64 D.1, .int .i64 D.2.1, .slice ao n cap] 25).alloc _).kept k1
       have L1 := (Loc.new (u.alloc (.cells #[.int .i64 D.1, .int .i64 D.2.1, .slice ao n cap] 25)) [.int .i64 0, .int .i64 0, .slice none 0 0] 25).kept k1
       simp only [World.size_alloc] at L1
       have x0 := L0.cell 0 rfl
       have x1 := L0.cell 1 rfl
       have x2 := L0.cell 2 rfl
       have xf0 := L0.frozen 0
       have xf1 := L0.frozen 1
       have xf2 := L0.frozen 2
       have y0 := L1.cell 0 rfl
       have y1 := L1.cell 1 rfl
       have y2 := L1.cell 2 rfl
       have yf0 := L1.frozen 0
       have yf1 := L1.frozen 1
       have yf2 := L1.frozen 2
       have HL0 : Hid _ := L0
       have HL1 : Hid _ := L1
       have HK1 : Hid _ := K1
       clear k1 L0 L1 K1)
    | (go_at_call 72; refine (specOwn D _ _ (hA.kept HK1.out) hc).mono ?_; rintro e u2 ⟨v2, rfl, o2, k2⟩
       obtain ⟨ao2, n2, cap2, hfm2⟩ := o2.form
       subst hfm2
       obtain ⟨zs, hzn, hen, hst⟩ := o2.ents
       have h60 : zs.length ≤ 60 := by
         have h5 := hg.2.2.2.2.1
         have := congrArg List.length hst
         rw [List.length_map] at this
         omega
       subst hzn
       have HEN : Hid (EntsO u2 u1.heap.size u2.heap.size (.slice ao2 zs.length cap2) zs ∧ zs.map strip = D.2.2) := ⟨hen, hst⟩
       have hbase := Loc.lt HL1.out
       have hbase2 := k2.size
       clear hen hst
       have HBX : Hid (But u.heap.size (u.heap.size + 2) u2 (((u2.setCell ⟨u.heap.size, 0, none⟩ (.int .i64 D.1)).setCell ⟨u.heap.size, 1, none⟩ (.int .i64 D.2.1)).setCell ⟨u.heap.size, 2, none⟩ (.slice ao2 zs.length cap2))) := (((But.refl _ _ _).setCell (by simp) (by simp) _).setCell (by simp) (by simp) _).setCell (by simp) (by simp) _
       have HKX : Hid (Kept u (((u2.setCell ⟨u.heap.size, 0, none⟩ (.int .i64 D.1)).setCell ⟨u.heap.size, 1, none⟩ (.int .i64 D.2.1)).setCell ⟨u.heap.size, 2, none⟩ (.slice ao2 zs.length cap2))) := (HK1.out.trans k2).onto HBX.out (Nat.le_refl _)
       have HEX : Hid (EntsO (((u2.setCell ⟨u.heap.size, 0, none⟩ (.int .i64 D.1)).setCell ⟨u.heap.size, 1, none⟩ (.int .i64 D.2.1)).setCell ⟨u.heap.size, 2, none⟩ (.slice ao2 zs.length cap2)) u1.heap.size u2.heap.size (.slice ao2 zs.length cap2) zs) := HEN.out.1.but HBX.out (.inr (by omega))
       have K2 := HK1.out.trans k2
       have L0 := Loc.kept HL0.out k2
       have L1 := Loc.kept HL1.out k2
       have s2 := HK1.out.size
       have s3 := k2.size
       have s4 := L1.lt
       have s6 := L0.lt
       have s5 := Loc.lt HL1.out
       clear x0 x1 x2 xf0 xf1 xf2 y0 y1 y2 yf0 yf1 yf2 HL0 HL1 HK1 k2
       have x0 := L0.cell 0 rfl
       have x1 := L0.cell 1 rfl
       have x2 := L0.cell 2 rfl
       have xf0 := L0.frozen 0
       have xf1 := L0.frozen 1
       have xf2 := L0.frozen 2
       have y0 := L1.cell 0 rfl
       have y1 := L1.cell 1 rfl
       have y2 := L1.cell 2 rfl
       have yf0 := L1.frozen 0
       have yf1 := L1.frozen 1
       have yf2 := L1.frozen 2
       have C3 : Loc (((u2.setCell ⟨u.heap.size, 0, none⟩ (.int .i64 D.1)).setCell ⟨u.heap.size, 1, none⟩ (.int .i64 D.2.1)).setCell ⟨u.heap.size, 2, none⟩ (.slice ao2 zs.length cap2)) u.heap.size [.int .i64 D.1, .int .i64 D.2.1, .slice ao2 zs.length cap2] := ((L0.set 0 (.int .i64 D.1)).set 1 (.int .i64 D.2.1)).set 2 (.slice ao2 zs.length cap2)
       have R3 : Loc (((u2.setCell ⟨u.heap.size, 0, none⟩ (.int .i64 D.1)).setCell ⟨u.heap.size, 1, none⟩ (.int .i64 D.2.1)).setCell ⟨u.heap.size, 2, none⟩ (.slice ao2 zs.length cap2)) (u.heap.size + 1) [.int .i64 0, .int .i64 0, .slice none 0 0] := ((L1.other (by omega) _).other (by omega) _).other (by omega) _
       have c30 := C3.cell 0 rfl
       have c31 := C3.cell 1 rfl
       have c32 := C3.cell 2 rfl
       have c3f0 := C3.frozen 0
       have c3f1 := C3.frozen 1
       have c3f2 := C3.frozen 2
       have r30 := R3.cell 0 rfl
       have r31 := R3.cell 1 rfl
       have r32 := R3.cell 2 rfl
       have r3f0 := R3.frozen 0
       have r3f1 := R3.frozen 1
       have r3f2 := R3.frozen 2
       have HC3 : Hid _ := C3
       have HR3 : Hid _ := R3
       clear C3 R3
       have HL0 : Hid _ := L0
       have HL1 : Hid _ := L1
       have HK2 : Hid _ := K2
       have HO2 : Hid _ := o2
       clear L0 L1 K2 o2)
    | (go_at_call 69; refine (sname _ _ hnl).mono ?_; rintro e w9 ⟨rfl, rfl⟩))
  have B : But u.heap.size (u.heap.size + 2) u2 ((((((u2.setCell ⟨u.heap.size, 0, none⟩ (.int .i64 D.1)).setCell ⟨u.heap.size, 1, none⟩ (.int .i64 D.2.1)).setCell ⟨u.heap.size, 2, none⟩ (.slice ao2 zs.length cap2)).setCell ⟨u.heap.size + 1, 0, none⟩ (.int .i64 D.1)).setCell ⟨u.heap.size + 1, 1, none⟩ (.int .i64 D.2.1)).setCell ⟨u.heap.size + 1, 2, none⟩ (.slice ao2 zs.length cap2)) := ((((((But.refl _ _ _).setCell (by simp) (by simp) _).setCell (by simp) (by simp) _).setCell (by simp) (by simp) _).setCell (by simp) (by simp) _).setCell (by simp) (by simp) _).setCell (by simp) (by simp) _
  refine bodyPost_ret (v := .tuple #[.agg #[.int .i64 D.1, .int .i64 D.2.1, .slice ao2 zs.length cap2], .int .i64 4]) (by simp [results, Try.results32, go_sem, r30, r31, r32]) rfl ?_
  exact ⟨_, rfl, ⟨_, zs, rfl, ((HEN.out.1.but B (by omega)).mono (by omega) B.size).low, HEN.out.2⟩, HK2.out.onto B (by omega)⟩

set_option maxHeartbeats 4000000 in
theorem specSetNone (D : WD) (id : Int) (nm : ByteArray) (val : Int) (hg : GoodW D) (hnl : nm.size ≤ 1048576) (hnm : nameB nm = true) (hno : ∀ e ∈ D.2.2, e.1 ≠ id) (hc : ecost D.2.2 ≤ 1048576) (u : World) (lo hi : Nat) (v : Value) (ho : WO u lo hi v D) :
    Calls Try.prog 32 #[v, .int .i64 id, .string nm, .int .i64 val] u fun e u' => ∃ v', e = .returned (.tuple #[v', .int .i64 2]) ∧ WO u' u.heap.size u'.heap.size v' D ∧ Kept u u' := by
  obtain ⟨ao, n, cap, hfm⟩ := ho.form
  subst hfm
  have hA := ho.at
  have HN : Hid _ := hno
  clear hno
  go_enter Try.func32, Try.ntmps32
  go_wp2_with (first
    | (go_at_call 25; refine (good_yes (specGood D _ _ (hA.kept (((But.refl _ _ u).alloc _).alloc _)) hc) hg).mono ?_; rintro e u1 ⟨rfl, k1⟩
       have K1 : Kept u u1 := (((But.refl _ _ u).alloc _).alloc _).trans k1
       have L0 := ((Loc.new u [.int .i64 D.1, .int .i64 D.2.1, .slice ao n cap] 25).alloc _).kept k1
       have L1 := (Loc.new (u.alloc (.cells #[.int .i64 D.1, .int .i64 D.2.1, .slice ao n cap] 25)) [.int .i64 0, .int .i64 0, .slice none 0 0] 25).kept k1
       simp only [World.size_alloc] at L1
       have x0 := L0.cell 0 rfl
       have x1 := L0.cell 1 rfl
       have x2 := L0.cell 2 rfl
       have xf0 := L0.frozen 0
       have xf1 := L0.frozen 1
       have xf2 := L0.frozen 2
       have y0 := L1.cell 0 rfl
       have y1 := L1.cell 1 rfl
       have y2 := L1.cell 2 rfl
       have yf0 := L1.frozen 0
       have yf1 := L1.frozen 1
       have yf2 := L1.frozen 2
       have HL0 : Hid _ := L0
       have HL1 : Hid _ := L1
       have HK1 : Hid _ := K1
       clear k1 L0 L1 K1)
    | (go_at_call 72; refine (specOwn D _ _ (hA.kept HK1.out) hc).mono ?_; rintro e u2 ⟨v2, rfl, o2, k2⟩
       obtain ⟨ao2, n2, cap2, hfm2⟩ := o2.form
       subst hfm2
       obtain ⟨zs, hzn, hen, hst⟩ := o2.ents
       have h60 : zs.length ≤ 60 := by
         have h5 := hg.2.2.2.2.1
         have := congrArg List.length hst
         rw [List.length_map] at this
         omega
       subst hzn
       have HEN : Hid (EntsO u2 u1.heap.size u2.heap.size (.slice ao2 zs.length cap2) zs ∧ zs.map strip = D.2.2) := ⟨hen, hst⟩
       have hbase := Loc.lt HL1.out
       have hbase2 := k2.size
       clear hen hst
       have HBX : Hid (But u.heap.size (u.heap.size + 2) u2 (((u2.setCell ⟨u.heap.size, 0, none⟩ (.int .i64 D.1)).setCell ⟨u.heap.size, 1, none⟩ (.int .i64 D.2.1)).setCell ⟨u.heap.size, 2, none⟩ (.slice ao2 zs.length cap2))) := (((But.refl _ _ _).setCell (by simp) (by simp) _).setCell (by simp) (by simp) _).setCell (by simp) (by simp) _
       have HKX : Hid (Kept u (((u2.setCell ⟨u.heap.size, 0, none⟩ (.int .i64 D.1)).setCell ⟨u.heap.size, 1, none⟩ (.int .i64 D.2.1)).setCell ⟨u.heap.size, 2, none⟩ (.slice ao2 zs.length cap2))) := (HK1.out.trans k2).onto HBX.out (Nat.le_refl _)
       have HEX : Hid (EntsO (((u2.setCell ⟨u.heap.size, 0, none⟩ (.int .i64 D.1)).setCell ⟨u.heap.size, 1, none⟩ (.int .i64 D.2.1)).setCell ⟨u.heap.size, 2, none⟩ (.slice ao2 zs.length cap2)) u1.heap.size u2.heap.size (.slice ao2 zs.length cap2) zs) := HEN.out.1.but HBX.out (.inr (by omega))
       have K2 := HK1.out.trans k2
       have L0 := Loc.kept HL0.out k2
       have L1 := Loc.kept HL1.out k2
       have s2 := HK1.out.size
       have s3 := k2.size
       have s4 := L1.lt
       have s6 := L0.lt
       have s5 := Loc.lt HL1.out
       clear x0 x1 x2 xf0 xf1 xf2 y0 y1 y2 yf0 yf1 yf2 HL0 HL1 HK1 k2
       have x0 := L0.cell 0 rfl
       have x1 := L0.cell 1 rfl
       have x2 := L0.cell 2 rfl
       have xf0 := L0.frozen 0
       have xf1 := L0.frozen 1
       have xf2 := L0.frozen 2
       have y0 := L1.cell 0 rfl
       have y1 := L1.cell 1 rfl
       have y2 := L1.cell 2 rfl
       have yf0 := L1.frozen 0
       have yf1 := L1.frozen 1
       have yf2 := L1.frozen 2
       have C3 : Loc (((u2.setCell ⟨u.heap.size, 0, none⟩ (.int .i64 D.1)).setCell ⟨u.heap.size, 1, none⟩ (.int .i64 D.2.1)).setCell ⟨u.heap.size, 2, none⟩ (.slice ao2 zs.length cap2)) u.heap.size [.int .i64 D.1, .int .i64 D.2.1, .slice ao2 zs.length cap2] := ((L0.set 0 (.int .i64 D.1)).set 1 (.int .i64 D.2.1)).set 2 (.slice ao2 zs.length cap2)
       have R3 : Loc (((u2.setCell ⟨u.heap.size, 0, none⟩ (.int .i64 D.1)).setCell ⟨u.heap.size, 1, none⟩ (.int .i64 D.2.1)).setCell ⟨u.heap.size, 2, none⟩ (.slice ao2 zs.length cap2)) (u.heap.size + 1) [.int .i64 0, .int .i64 0, .slice none 0 0] := ((L1.other (by omega) _).other (by omega) _).other (by omega) _
       have c30 := C3.cell 0 rfl
       have c31 := C3.cell 1 rfl
       have c32 := C3.cell 2 rfl
       have c3f0 := C3.frozen 0
       have c3f1 := C3.frozen 1
       have c3f2 := C3.frozen 2
       have r30 := R3.cell 0 rfl
       have r31 := R3.cell 1 rfl
       have r32 := R3.cell 2 rfl
       have r3f0 := R3.frozen 0
       have r3f1 := R3.frozen 1
       have r3f2 := R3.frozen 2
       have HC3 : Hid _ := C3
       have HR3 : Hid _ := R3
       clear C3 R3
       have HL0 : Hid _ := L0
       have HL1 : Hid _ := L1
       have HK2 : Hid _ := K2
       have HO2 : Hid _ := o2
       clear L0 L1 K2 o2)
    | (go_at_call 69; refine (sname _ _ hnl).mono ?_; rintro e w9 ⟨rfl, rfl⟩)
    | (go_at_call 74; refine (l3At id zs _ _ _ _ HEX.out.at (by omega) (-1) (.inr ⟨fun z hz => HN.out (strip z) (by rw [← HEN.out.2]; exact List.mem_map_of_mem hz), rfl⟩)).mono ?_; rintro e u3 ⟨rfl, k3⟩
       have M0 := Loc.kept HC3.out k3
       have M1 := Loc.kept HR3.out k3
       have s7 := k3.size
       have m0 := M0.cell 0 rfl
       have m1 := M0.cell 1 rfl
       have m2 := M0.cell 2 rfl
       have mf0 := M0.frozen 0
       have mf1 := M0.frozen 1
       have mf2 := M0.frozen 2
       have p0 := M1.cell 0 rfl
       have p1 := M1.cell 1 rfl
       have p2 := M1.cell 2 rfl
       have pf0 := M1.frozen 0
       have pf1 := M1.frozen 1
       have pf2 := M1.frozen 2
       have HM0 : Hid _ := M0
       have HM1 : Hid _ := M1
       have HE3 : Hid _ := HEX.out.kept k3
       have HK3 : Hid _ := HKX.out.trans k3

       clear M0 M1 k3))
  have B : But u.heap.size (u.heap.size + 2) u3 (((u3.setCell ⟨u.heap.size + 1, 0, none⟩ (.int .i64 D.1)).setCell ⟨u.heap.size + 1, 1, none⟩ (.int .i64 D.2.1)).setCell ⟨u.heap.size + 1, 2, none⟩ (.slice ao2 zs.length cap2)) := (((But.refl _ _ _).setCell (by simp) (by simp) _).setCell (by simp) (by simp) _).setCell (by simp) (by simp) _
  refine bodyPost_ret (v := .tuple #[.agg #[.int .i64 D.1, .int .i64 D.2.1, .slice ao2 zs.length cap2], .int .i64 2]) (by simp [results, Try.results32, go_sem, p0, p1, p2]) rfl ?_
  exact ⟨_, rfl, ⟨_, zs, rfl, ((HE3.out.but B (by omega)).mono (by omega) (Nat.le_refl _)).low, HEN.out.2⟩, HK3.out.onto B (Nat.le_refl _)⟩

end Go.Proofs.Ytefiaefjldfbjaa
