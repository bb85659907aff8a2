/-
  What NextTick answers, in the program and in its specification.
-/
import Derived.Test.YtajelalimiobeaaGoodS
import Derived.Test.YtajelalimiobeaaCopyI
import Derived.Test.YtajelalimiobeaaLaw
namespace Go.Proofs.Ytajelalimiobeaa
open Go.ChangeShapes Go.WideShapes Go.ChangeAt Go.RowKit

theorem good_yes {n : Nat} {args : Array Value} {w : World} {P : Prop} (h : Calls Try.prog n args w fun e w' => BoolEnd P e ∧ Kept w w') (hp : P) : Calls Try.prog n args w fun e w' => e = .returned (.bool true) ∧ Kept w w' := by
  refine h.mono ?_
  rintro e w' ⟨⟨b, rfl, hb⟩, hk⟩
  exact ⟨by rw [hb.2 hp], hk⟩
theorem good_no {n : Nat} {args : Array Value} {w : World} {P : Prop} (h : Calls Try.prog n args w fun e w' => BoolEnd P e ∧ Kept w w') (hp : ¬ P) : Calls Try.prog n args w fun e w' => e = .returned (.bool false) ∧ Kept w w' := by
  refine h.mono ?_
  rintro e w' ⟨⟨b, rfl, hb⟩, hk⟩
  refine ⟨?_, hk⟩
  cases b with
  | false => rfl
  | true => exact absurd (hb.1 rfl) hp
def DZ : WD := (0, 0, [])
theorem wo_zero (w : World) (lo hi : Nat) : WO w lo hi (.agg #[.int .i64 0, .int .i64 0, .slice none 0 0]) DZ :=
  ⟨_, [], rfl, ⟨⟨World.ownsRow_nil _ _ _ _, fun g hg => by simp [Value.ownBlock] at hg⟩, fun i z hz => by simp at hz, fun i j z z' _ hz => by simp at hz⟩, rfl⟩

set_option maxHeartbeats 4000000 in
theorem specTickBad (D : WD)  (hg : ¬ GoodW D) (hc : ecost D.2.2 ≤ 1048576) (u : World) (lo hi : Nat) (v : Value) (ho : WO u lo hi v D) :
    Calls Try.prog 36 #[v] u fun e u' => ∃ v', e = .returned (.tuple #[v', .int .i64 1]) ∧ WO u' u.heap.size u'.heap.size v' DZ ∧ Kept u u' := by
  obtain ⟨ao, n, cap, hfm⟩ := ho.form
  subst hfm
  have hA := ho.at
  go_enter Try.func36, Try.ntmps36
  go_wp2_with (first
    | (go_at_call 25; refine (good_no (specGood D _ _ (hA.kept (((But.refl _ _ u).alloc _).alloc _)) hc) hg).mono ?_; rintro e u1 ⟨rfl, k1⟩
       have K1 : Kept u u1 := (((But.refl _ _ u).alloc _).alloc _).trans k1
       have L0 := ((Loc.new u [.int .i64 D.1, .int .i64 D.2.1, .slice ao n cap] 25).alloc _).kept k1
       have L1 := (Loc.new (u.alloc (.cells #[.int .i64 D.1, .int .i64 D.2.1, .slice ao n cap] 25)) [.int .i64 0, .int .i64 0, .slice none 0 0] 25).kept k1
       simp only [World.size_alloc] at L1
       have x0 := L0.cell 0 rfl
       have x1 := L0.cell 1 rfl
       have x2 := L0.cell 2 rfl
       have xf0 := L0.frozen 0
       have xf1 := L0.frozen 1
       have xf2 := L0.frozen 2
       have y0 := L1.cell 0 rfl
       have y1 := L1.cell 1 rfl
       have y2 := L1.cell 2 rfl
       have yf0 := L1.frozen 0
       have yf1 := L1.frozen 1
       have yf2 := L1.frozen 2
       have HL0 : Hid _ := L0
       have HL1 : Hid _ := L1
       have HK1 : Hid _ := K1
       clear k1 L0 L1 K1))
  have B : But u.heap.size (u.heap.size + 2) u1 (((u1.setCell ⟨u.heap.size + 1, 0, none⟩ (.int .i64 0)).setCell ⟨u.heap.size + 1, 1, none⟩ (.int .i64 0)).setCell ⟨u.heap.size + 1, 2, none⟩ (.slice none 0 0)) :=
    (((But.refl _ _ _).setCell (by simp) (by simp) _).setCell (by simp) (by simp) _).setCell (by simp) (by simp) _
  refine bodyPost_ret (v := .tuple #[.agg #[.int .i64 0, .int .i64 0, .slice none 0 0], .int .i64 1]) (by simp [results, Try.results36, go_sem, y0, y1, y2]) rfl ?_
  exact ⟨_, rfl, wo_zero _ _ _, HK1.out.onto B (Nat.le_refl _)⟩

set_option maxHeartbeats 4000000 in
theorem implTickBad (D : WD)  (hg : ¬ GoodW D) (hc : ecost D.2.2 ≤ 1048576) (u : World) (lo hi : Nat) (v : Value) (ho : WO u lo hi v D) :
    Calls Try.prog 37 #[v] u fun e u' => ∃ v', e = .returned (.tuple #[v', .int .i64 1]) ∧ WO u' u.heap.size u'.heap.size v' DZ ∧ Kept u u' := by
  obtain ⟨ao, n, cap, hfm⟩ := ho.form
  subst hfm
  have hA := ho.at
  go_enter Try.func37, Try.ntmps37
  go_wp2_with (first
    | (go_at_call 27; refine (good_no (implGood D _ _ (hA.kept (((But.refl _ _ u).alloc _).alloc _)) hc) hg).mono ?_; rintro e u1 ⟨rfl, k1⟩
       have K1 : Kept u u1 := (((But.refl _ _ u).alloc _).alloc _).trans k1
       have L0 := ((Loc.new u [.int .i64 D.1, .int .i64 D.2.1, .slice ao n cap] 25).alloc _).kept k1
       have L1 := (Loc.new (u.alloc (.cells #[.int .i64 D.1, .int .i64 D.2.1, .slice ao n cap] 25)) [.int .i64 0, .int .i64 0, .slice none 0 0] 25).kept k1
       simp only [World.size_alloc] at L1
       have x0 := L0.cell 0 rfl
       have x1 := L0.cell 1 rfl
       have x2 := L0.cell 2 rfl
       have xf0 := L0.frozen 0
       have xf1 := L0.frozen 1
       have xf2 := L0.frozen 2
       have y0 := L1.cell 0 rfl
       have y1 := L1.cell 1 rfl
       have y2 := L1.cell 2 rfl
       have yf0 := L1.frozen 0
       have yf1 := L1.frozen 1
       have yf2 := L1.frozen 2
       have HL0 : Hid _ := L0
       have HL1 : Hid _ := L1
       have HK1 : Hid _ := K1
       clear k1 L0 L1 K1))
  have B : But u.heap.size (u.heap.size + 2) u1 (((u1.setCell ⟨u.heap.size + 1, 0, none⟩ (.int .i64 0)).setCell ⟨u.heap.size + 1, 1, none⟩ (.int .i64 0)).setCell ⟨u.heap.size + 1, 2, none⟩ (.slice none 0 0)) :=
    (((But.refl _ _ _).setCell (by simp) (by simp) _).setCell (by simp) (by simp) _).setCell (by simp) (by simp) _
  refine bodyPost_ret (v := .tuple #[.agg #[.int .i64 0, .int .i64 0, .slice none 0 0], .int .i64 1]) (by simp [results, Try.results37, go_sem, y0, y1, y2]) rfl ?_
  exact ⟨_, rfl, wo_zero _ _ _, HK1.out.onto B (Nat.le_refl _)⟩

set_option maxHeartbeats 4000000 in
theorem specTickFull (D : WD)  (hg : GoodW D) (ht : (D.2.1 == 1000000) = true) (hc : ecost D.2.2 ≤ 1048576) (u : World) (lo hi : Nat) (v : Value) (ho : WO u lo hi v D) :
    Calls Try.prog 36 #[v] u fun e u' => ∃ v', e = .returned (.tuple #[v', .int .i64 3]) ∧ WO u' u.heap.size u'.heap.size v' D ∧ Kept u u' := by
  obtain ⟨ao, n, cap, hfm⟩ := ho.form
  subst hfm
  have hA := ho.at
  go_enter Try.func36, Try.ntmps36
  go_wp2_with (first
    | (go_at_call 25; refine (good_yes (specGood D _ _ (hA.kept (((But.refl _ _ u).alloc _).alloc _)) hc) hg).mono ?_; rintro e u1 ⟨rfl, k1⟩
       have K1 : Kept u u1 := (((But.refl _ _ u).alloc _).alloc _).trans k1
       have L0 := ((Loc.new u [.int .i64 D.1, .int .i64 D.2.1, .slice ao n cap] 25).alloc _).kept k1
       have L1 := (Loc.new (u.alloc (.cells #[.int .i64 D.1, .int .i64 D.2.1, .slice ao n cap] 25)) [.int .i64 0, .int .i64 0, .slice none 0 0] 25).kept k1
       simp only [World.size_alloc] at L1
       have x0 := L0.cell 0 rfl
       have x1 := L0.cell 1 rfl
       have x2 := L0.cell 2 rfl
       have xf0 := L0.frozen 0
       have xf1 := L0.frozen 1
       have xf2 := L0.frozen 2
       have y0 := L1.cell 0 rfl
       have y1 := L1.cell 1 rfl
       have y2 := L1.cell 2 rfl
       have yf0 := L1.frozen 0
       have yf1 := L1.frozen 1
       have yf2 := L1.frozen 2
       have HL0 : Hid _ := L0
       have HL1 : Hid _ := L1
       have HK1 : Hid _ := K1
       clear k1 L0 L1 K1)
    | (go_at_call 72; refine (specOwn D _ _ (hA.kept HK1.out) hc).mono ?_; rintro e u2 ⟨v2, rfl, o2, k2⟩
       obtain ⟨ao2, n2, cap2, hfm2⟩ := o2.form
       subst hfm2
       have K2 := HK1.out.trans k2
       have L0 := Loc.kept HL0.out k2
       have L1 := Loc.kept HL1.out k2
       have s2 := HK1.out.size
       have s3 := k2.size
       have s4 := L1.lt
       have s6 := L0.lt
       have s5 := Loc.lt HL1.out
       clear x0 x1 x2 xf0 xf1 xf2 y0 y1 y2 yf0 yf1 yf2 HL0 HL1 HK1 k2
       have x0 := L0.cell 0 rfl
       have x1 := L0.cell 1 rfl
       have x2 := L0.cell 2 rfl
       have xf0 := L0.frozen 0
       have xf1 := L0.frozen 1
       have xf2 := L0.frozen 2
       have y0 := L1.cell 0 rfl
       have y1 := L1.cell 1 rfl
       have y2 := L1.cell 2 rfl
       have yf0 := L1.frozen 0
       have yf1 := L1.frozen 1
       have yf2 := L1.frozen 2
       have C3 : Loc (((u2.setCell ⟨u.heap.size, 0, none⟩ (.int .i64 D.1)).setCell ⟨u.heap.size, 1, none⟩ (.int .i64 D.2.1)).setCell ⟨u.heap.size, 2, none⟩ (.slice ao2 n2 cap2)) u.heap.size [.int .i64 D.1, .int .i64 D.2.1, .slice ao2 n2 cap2] := ((L0.set 0 (.int .i64 D.1)).set 1 (.int .i64 D.2.1)).set 2 (.slice ao2 n2 cap2)
       have R3 : Loc (((u2.setCell ⟨u.heap.size, 0, none⟩ (.int .i64 D.1)).setCell ⟨u.heap.size, 1, none⟩ (.int .i64 D.2.1)).setCell ⟨u.heap.size, 2, none⟩ (.slice ao2 n2 cap2)) (u.heap.size + 1) [.int .i64 0, .int .i64 0, .slice none 0 0] := ((L1.other (by omega) _).other (by omega) _).other (by omega) _
       have c30 := C3.cell 0 rfl
       have c31 := C3.cell 1 rfl
       have c32 := C3.cell 2 rfl
       have c3f0 := C3.frozen 0
       have c3f1 := C3.frozen 1
       have c3f2 := C3.frozen 2
       have r30 := R3.cell 0 rfl
       have r31 := R3.cell 1 rfl
       have r32 := R3.cell 2 rfl
       have r3f0 := R3.frozen 0
       have r3f1 := R3.frozen 1
       have r3f2 := R3.frozen 2
       have HC3 : Hid _ := C3
       have HR3 : Hid _ := R3
       clear C3 R3
       have HL0 : Hid _ := L0
       have HL1 : Hid _ := L1
       have HK2 : Hid _ := K2
       have HO2 : Hid _ := o2
       clear L0 L1 K2 o2))
  have B : But u.heap.size (u.heap.size + 2) u2 ((((((u2.setCell ⟨u.heap.size, 0, none⟩ (.int .i64 D.1)).setCell ⟨u.heap.size, 1, none⟩ (.int .i64 D.2.1)).setCell ⟨u.heap.size, 2, none⟩ (.slice ao2 n2 cap2)).setCell ⟨u.heap.size + 1, 0, none⟩ (.int .i64 D.1)).setCell ⟨u.heap.size + 1, 1, none⟩ (.int .i64 D.2.1)).setCell ⟨u.heap.size + 1, 2, none⟩ (.slice ao2 n2 cap2)) := ((((((But.refl _ _ _).setCell (by simp) (by simp) _).setCell (by simp) (by simp) _).setCell (by simp) (by simp) _).setCell (by simp) (by simp) _).setCell (by simp) (by simp) _).setCell (by simp) (by simp) _
  refine bodyPost_ret (v := .tuple #[.agg #[.int .i64 D.1, .int .i64 D.2.1, .slice ao2 n2 cap2], .int .i64 3]) (by simp [results, Try.results36, go_sem, r30, r31, r32]) rfl ?_
  obtain ⟨ev, zs, he, h1, h2⟩ := HO2.out
  cases he
  exact ⟨_, rfl, ⟨_, zs, rfl, ((h1.but B (by omega)).mono (by omega) B.size).low, h2⟩, HK2.out.onto B (by omega)⟩

set_option maxHeartbeats 4000000 in
theorem specTickOk (D : WD)  (hg : GoodW D) (ht : (D.2.1 == 1000000) = false) (hc : ecost D.2.2 ≤ 1048576) (u : World) (lo hi : Nat) (v : Value) (ho : WO u lo hi v D) :
    Calls Try.prog 36 #[v] u fun e u' => ∃ v', e = .returned (.tuple #[v', .int .i64 0]) ∧ WO u' u.heap.size u'.heap.size v' (D.1, D.2.1 + 1, D.2.2) ∧ Kept u u' := by
  obtain ⟨ao, n, cap, hfm⟩ := ho.form
  subst hfm
  have hA := ho.at
  have hb1 : 0 ≤ D.2.1 := hg.2.2.1
  have hb2 : D.2.1 ≤ 1000000 := hg.2.2.2.1
  go_enter Try.func36, Try.ntmps36
  go_wp2_with (first
    | (go_at_call 25; refine (good_yes (specGood D _ _ (hA.kept (((But.refl _ _ u).alloc _).alloc _)) hc) hg).mono ?_; rintro e u1 ⟨rfl, k1⟩
       have K1 : Kept u u1 := (((But.refl _ _ u).alloc _).alloc _).trans k1
       have L0 := ((Loc.new u [.int .i64 D.1, .int .i64 D.2.1, .slice ao n cap] 25).alloc _).kept k1
       have L1 := (Loc.new (u.alloc (.cells #[.int .i64 D.1, .int .i64 D.2.1, .slice ao n cap] 25)) [.int .i64 0, .int .i64 0, .slice none 0 0] 25).kept k1
       simp only [World.size_alloc] at L1
       have x0 := L0.cell 0 rfl
       have x1 := L0.cell 1 rfl
       have x2 := L0.cell 2 rfl
       have xf0 := L0.frozen 0
       have xf1 := L0.frozen 1
       have xf2 := L0.frozen 2
       have y0 := L1.cell 0 rfl
       have y1 := L1.cell 1 rfl
       have y2 := L1.cell 2 rfl
       have yf0 := L1.frozen 0
       have yf1 := L1.frozen 1
       have yf2 := L1.frozen 2
       have HL0 : Hid _ := L0
       have HL1 : Hid _ := L1
       have HK1 : Hid _ := K1
       clear k1 L0 L1 K1)
    | (go_at_call 72; refine (specOwn D _ _ (hA.kept HK1.out) hc).mono ?_; rintro e u2 ⟨v2, rfl, o2, k2⟩
       obtain ⟨ao2, n2, cap2, hfm2⟩ := o2.form
       subst hfm2
       have K2 := HK1.out.trans k2
       have L0 := Loc.kept HL0.out k2
       have L1 := Loc.kept HL1.out k2
       have s2 := HK1.out.size
       have s3 := k2.size
       have s4 := L1.lt
       have s6 := L0.lt
       have s5 := Loc.lt HL1.out
       clear x0 x1 x2 xf0 xf1 xf2 y0 y1 y2 yf0 yf1 yf2 HL0 HL1 HK1 k2
       have x0 := L0.cell 0 rfl
       have x1 := L0.cell 1 rfl
       have x2 := L0.cell 2 rfl
       have xf0 := L0.frozen 0
       have xf1 := L0.frozen 1
       have xf2 := L0.frozen 2
       have y0 := L1.cell 0 rfl
       have y1 := L1.cell 1 rfl
       have y2 := L1.cell 2 rfl
       have yf0 := L1.frozen 0
       have yf1 := L1.frozen 1
       have yf2 := L1.frozen 2
       have C3 : Loc (((u2.setCell ⟨u.heap.size, 0, none⟩ (.int .i64 D.1)).setCell ⟨u.heap.size, 1, none⟩ (.int .i64 D.2.1)).setCell ⟨u.heap.size, 2, none⟩ (.slice ao2 n2 cap2)) u.heap.size [.int .i64 D.1, .int .i64 D.2.1, .slice ao2 n2 cap2] := ((L0.set 0 (.int .i64 D.1)).set 1 (.int .i64 D.2.1)).set 2 (.slice ao2 n2 cap2)
       have R3 : Loc (((u2.setCell ⟨u.heap.size, 0, none⟩ (.int .i64 D.1)).setCell ⟨u.heap.size, 1, none⟩ (.int .i64 D.2.1)).setCell ⟨u.heap.size, 2, none⟩ (.slice ao2 n2 cap2)) (u.heap.size + 1) [.int .i64 0, .int .i64 0, .slice none 0 0] := ((L1.other (by omega) _).other (by omega) _).other (by omega) _
       have c30 := C3.cell 0 rfl
       have c31 := C3.cell 1 rfl
       have c32 := C3.cell 2 rfl
       have c3f0 := C3.frozen 0
       have c3f1 := C3.frozen 1
       have c3f2 := C3.frozen 2
       have r30 := R3.cell 0 rfl
       have r31 := R3.cell 1 rfl
       have r32 := R3.cell 2 rfl
       have r3f0 := R3.frozen 0
       have r3f1 := R3.frozen 1
       have r3f2 := R3.frozen 2
       have C4 := C3.set 1 (.int .i64 (D.2.1 + 1))
       have R4 := R3.other (b' := u.heap.size) (j := 1) (by omega) (.int .i64 (D.2.1 + 1))
       simp only [List.set_cons_zero, List.set_cons_succ] at C4
       have c40 := C4.cell 0 rfl
       have c41 := C4.cell 1 rfl
       have c42 := C4.cell 2 rfl
       have c4f0 := C4.frozen 0
       have c4f1 := C4.frozen 1
       have c4f2 := C4.frozen 2
       have r40 := R4.cell 0 rfl
       have r41 := R4.cell 1 rfl
       have r42 := R4.cell 2 rfl
       have r4f0 := R4.frozen 0
       have r4f1 := R4.frozen 1
       have r4f2 := R4.frozen 2
       have HC3 : Hid _ := C3
       have HR3 : Hid _ := R3
       clear C3 R3
       have HC4 : Hid _ := C4
       have HR4 : Hid _ := R4
       clear C4 R4
       have HL0 : Hid _ := L0
       have HL1 : Hid _ := L1
       have HK2 : Hid _ := K2
       have HO2 : Hid _ := o2
       clear L0 L1 K2 o2))
  have B : But u.heap.size (u.heap.size + 2) u2 (((((((u2.setCell ⟨u.heap.size, 0, none⟩ (.int .i64 D.1)).setCell ⟨u.heap.size, 1, none⟩ (.int .i64 D.2.1)).setCell ⟨u.heap.size, 2, none⟩ (.slice ao2 n2 cap2)).setCell ⟨u.heap.size, 1, none⟩ (.int .i64 (D.2.1 + 1))).setCell ⟨u.heap.size + 1, 0, none⟩ (.int .i64 D.1)).setCell ⟨u.heap.size + 1, 1, none⟩ (.int .i64 (D.2.1 + 1))).setCell ⟨u.heap.size + 1, 2, none⟩ (.slice ao2 n2 cap2)) := (((((((But.refl _ _ _).setCell (by simp) (by simp) _).setCell (by simp) (by simp) _).setCell (by simp) (by simp) _).setCell (by simp) (by simp) _).setCell (by simp) (by simp) _).setCell (by simp) (by simp) _).setCell (by simp) (by simp) _
  refine bodyPost_ret (v := .tuple #[.agg #[.int .i64 D.1, .int .i64 (D.2.1 + 1), .slice ao2 n2 cap2], .int .i64 0]) (by simp [results, Try.results36, go_sem, r40, r41, r42]) rfl ?_
  obtain ⟨ev, zs, he, h1, h2⟩ := HO2.out
  cases he
  exact ⟨_, rfl, ⟨_, zs, rfl, ((h1.but B (by omega)).mono (by omega) B.size).low, h2⟩, HK2.out.onto B (by omega)⟩


set_option maxHeartbeats 4000000 in
theorem implTickFull (D : WD)  (hg : GoodW D) (ht : (D.2.1 == 1000000) = true) (hc : ecost D.2.2 ≤ 1048576) (u : World) (lo hi : Nat) (v : Value) (ho : WO u lo hi v D) :
    Calls Try.prog 37 #[v] u fun e u' => ∃ v', e = .returned (.tuple #[v', .int .i64 3]) ∧ WO u' u.heap.size u'.heap.size v' D ∧ Kept u u' := by
  obtain ⟨ao, n, cap, hfm⟩ := ho.form
  subst hfm
  have hA := ho.at
  go_enter Try.func37, Try.ntmps37
  go_wp2_with (first
    | (go_at_call 27; refine (good_yes (implGood D _ _ (hA.kept (((But.refl _ _ u).alloc _).alloc _)) hc) hg).mono ?_; rintro e u1 ⟨rfl, k1⟩
       have K1 : Kept u u1 := (((But.refl _ _ u).alloc _).alloc _).trans k1
       have L0 := ((Loc.new u [.int .i64 D.1, .int .i64 D.2.1, .slice ao n cap] 25).alloc _).kept k1
       have L1 := (Loc.new (u.alloc (.cells #[.int .i64 D.1, .int .i64 D.2.1, .slice ao n cap] 25)) [.int .i64 0, .int .i64 0, .slice none 0 0] 25).kept k1
       simp only [World.size_alloc] at L1
       have x0 := L0.cell 0 rfl
       have x1 := L0.cell 1 rfl
       have x2 := L0.cell 2 rfl
       have xf0 := L0.frozen 0
       have xf1 := L0.frozen 1
       have xf2 := L0.frozen 2
       have y0 := L1.cell 0 rfl
       have y1 := L1.cell 1 rfl
       have y2 := L1.cell 2 rfl
       have yf0 := L1.frozen 0
       have yf1 := L1.frozen 1
       have yf2 := L1.frozen 2
       have HL0 : Hid _ := L0
       have HL1 : Hid _ := L1
       have HK1 : Hid _ := K1
       clear k1 L0 L1 K1)
    | (go_at_call 73; refine (implCopy D _ _ (hA.kept HK1.out) hc).mono ?_; rintro e u2 ⟨v2, rfl, o2, k2⟩
       obtain ⟨ao2, n2, cap2, hfm2⟩ := o2.form
       subst hfm2
       have K2 := HK1.out.trans k2
       have L0 := Loc.kept HL0.out k2
       have L1 := Loc.kept HL1.out k2
       have s2 := HK1.out.size
       have s3 := k2.size
       have s4 := L1.lt
       have s6 := L0.lt
       have s5 := Loc.lt HL1.out
       clear x0 x1 x2 xf0 xf1 xf2 y0 y1 y2 yf0 yf1 yf2 HL0 HL1 HK1 k2
       have x0 := L0.cell 0 rfl
       have x1 := L0.cell 1 rfl
       have x2 := L0.cell 2 rfl
       have xf0 := L0.frozen 0
       have xf1 := L0.frozen 1
       have xf2 := L0.frozen 2
       have y0 := L1.cell 0 rfl
       have y1 := L1.cell 1 rfl
       have y2 := L1.cell 2 rfl
       have yf0 := L1.frozen 0
       have yf1 := L1.frozen 1
       have yf2 := L1.frozen 2

       have HL0 : Hid _ := L0
       have HL1 : Hid _ := L1
       have HK2 : Hid _ := K2
       have HO2 : Hid _ := o2
       clear L0 L1 K2 o2))
  have B : But u.heap.size (u.heap.size + 2) u2 ((((u2.setCell ⟨u.heap.size + 1, 0, none⟩ (.int .i64 D.1)).setCell ⟨u.heap.size + 1, 1, none⟩ (.int .i64 D.2.1)).setCell ⟨u.heap.size + 1, 2, none⟩ (.slice ao2 n2 cap2)).alloc (.cells #[.int .i64 D.1, .int .i64 D.2.1, .slice ao2 n2 cap2] 25)) := ((((But.refl _ _ _).setCell (by simp) (by simp) _).setCell (by simp) (by simp) _).setCell (by simp) (by simp) _).alloc _
  refine bodyPost_ret (v := .tuple #[.agg #[.int .i64 D.1, .int .i64 D.2.1, .slice ao2 n2 cap2], .int .i64 3]) (by simp [results, Try.results37, go_sem, y0, y1, y2, s4]) rfl ?_
  obtain ⟨ev, zs, he, h1, h2⟩ := HO2.out
  cases he
  exact ⟨_, rfl, ⟨_, zs, rfl, ((h1.but B (by omega)).mono (by omega) B.size).low, h2⟩, HK2.out.onto B (by omega)⟩

set_option maxHeartbeats 4000000 in
theorem implTickOk (D : WD)  (hg : GoodW D) (ht : (D.2.1 == 1000000) = false) (hc : ecost D.2.2 ≤ 1048576) (u : World) (lo hi : Nat) (v : Value) (ho : WO u lo hi v D) :
    Calls Try.prog 37 #[v] u fun e u' => ∃ v', e = .returned (.tuple #[v', .int .i64 0]) ∧ WO u' u.heap.size u'.heap.size v' (D.1, D.2.1 + 1, D.2.2) ∧ Kept u u' := by
  obtain ⟨ao, n, cap, hfm⟩ := ho.form
  subst hfm
  have hA := ho.at
  have hb1 : 0 ≤ D.2.1 := hg.2.2.1
  have hb2 : D.2.1 ≤ 1000000 := hg.2.2.2.1
  go_enter Try.func37, Try.ntmps37
  go_wp2_with (first
    | (go_at_call 27; refine (good_yes (implGood D _ _ (hA.kept (((But.refl _ _ u).alloc _).alloc _)) hc) hg).mono ?_; rintro e u1 ⟨rfl, k1⟩
       have K1 : Kept u u1 := (((But.refl _ _ u).alloc _).alloc _).trans k1
       have L0 := ((Loc.new u [.int .i64 D.1, .int .i64 D.2.1, .slice ao n cap] 25).alloc _).kept k1
       have L1 := (Loc.new (u.alloc (.cells #[.int .i64 D.1, .int .i64 D.2.1, .slice ao n cap] 25)) [.int .i64 0, .int .i64 0, .slice none 0 0] 25).kept k1
       simp only [World.size_alloc] at L1
       have x0 := L0.cell 0 rfl
       have x1 := L0.cell 1 rfl
       have x2 := L0.cell 2 rfl
       have xf0 := L0.frozen 0
       have xf1 := L0.frozen 1
       have xf2 := L0.frozen 2
       have y0 := L1.cell 0 rfl
       have y1 := L1.cell 1 rfl
       have y2 := L1.cell 2 rfl
       have yf0 := L1.frozen 0
       have yf1 := L1.frozen 1
       have yf2 := L1.frozen 2
       have HL0 : Hid _ := L0
       have HL1 : Hid _ := L1
       have HK1 : Hid _ := K1
       clear k1 L0 L1 K1)
    | (go_at_call 73; refine (implCopy D _ _ (hA.kept HK1.out) hc).mono ?_; rintro e u2 ⟨v2, rfl, o2, k2⟩
       obtain ⟨ao2, n2, cap2, hfm2⟩ := o2.form
       subst hfm2
       have K2 := HK1.out.trans k2
       have L0 := Loc.kept HL0.out k2
       have L1 := Loc.kept HL1.out k2
       have s2 := HK1.out.size
       have s3 := k2.size
       have s4 := L1.lt
       have s6 := L0.lt
       have s5 := Loc.lt HL1.out
       clear x0 x1 x2 xf0 xf1 xf2 y0 y1 y2 yf0 yf1 yf2 HL0 HL1 HK1 k2
       have x0 := L0.cell 0 rfl
       have x1 := L0.cell 1 rfl
       have x2 := L0.cell 2 rfl
       have xf0 := L0.frozen 0
       have xf1 := L0.frozen 1
       have xf2 := L0.frozen 2
       have y0 := L1.cell 0 rfl
       have y1 := L1.cell 1 rfl
       have y2 := L1.cell 2 rfl
       have yf0 := L1.frozen 0
       have yf1 := L1.frozen 1
       have yf2 := L1.frozen 2

       have HL0 : Hid _ := L0
       have HL1 : Hid _ := L1
       have HK2 : Hid _ := K2
       have HO2 : Hid _ := o2
       clear L0 L1 K2 o2))
  have B : But u.heap.size (u.heap.size + 2) u2 ((((u2.setCell ⟨u.heap.size + 1, 0, none⟩ (.int .i64 D.1)).setCell ⟨u.heap.size + 1, 1, none⟩ (.int .i64 (D.2.1 + 1))).setCell ⟨u.heap.size + 1, 2, none⟩ (.slice ao2 n2 cap2)).alloc (.cells #[.int .i64 D.1, .int .i64 (D.2.1 + 1), .slice ao2 n2 cap2] 25)) := ((((But.refl _ _ _).setCell (by simp) (by simp) _).setCell (by simp) (by simp) _).setCell (by simp) (by simp) _).alloc _
  refine bodyPost_ret (v := .tuple #[.agg #[.int .i64 D.1, .int .i64 (D.2.1 + 1), .slice ao2 n2 cap2], .int .i64 0]) (by simp [results, Try.results37, go_sem, y0, y1, y2, s4]) rfl ?_
  obtain ⟨ev, zs, he, h1, h2⟩ := HO2.out
  cases he
  exact ⟨_, rfl, ⟨_, zs, rfl, ((h1.but B (by omega)).mono (by omega) B.size).low, h2⟩, HK2.out.onto B (by omega)⟩

/-- What NextTick comes to, at each world: the same in the program and in its specification. -/
theorem tick_both (D : WD) (hc : ecost D.2.2 ≤ 1048576) : ∃ (D' : WD) (r : Int), Small D'.2.2 ∧ kcnt D'.2.2 ≤ 900000000000 ∧
    (∀ (u : World) (lo hi : Nat) (v : Value), WO u lo hi v D → Calls Try.prog 36 #[v] u fun e u' => ∃ v', e = .returned (.tuple #[v', .int .i64 r]) ∧ WO u' u.heap.size u'.heap.size v' D' ∧ Kept u u') ∧
    (∀ (u : World) (lo hi : Nat) (v : Value), WO u lo hi v D → Calls Try.prog 37 #[v] u fun e u' => ∃ v', e = .returned (.tuple #[v', .int .i64 r]) ∧ WO u' u.heap.size u'.heap.size v' D' ∧ Kept u u') := by
  by_cases hg : GoodW D
  · cases ht : (D.2.1 == 1000000) with
    | true => exact ⟨D, 3, small_of hc, kcnt_of hc, specTickFull D hg ht hc, implTickFull D hg ht hc⟩
    | false => exact ⟨(D.1, D.2.1 + 1, D.2.2), 0, small_of hc, kcnt_of hc, specTickOk D hg ht hc, implTickOk D hg ht hc⟩
  · exact ⟨DZ, 1, ⟨by simp [DZ], by simp [DZ]⟩, by simp [DZ, kcnt], specTickBad D hg hc, implTickBad D hg hc⟩
end Go.Proofs.Ytajelalimiobeaa
