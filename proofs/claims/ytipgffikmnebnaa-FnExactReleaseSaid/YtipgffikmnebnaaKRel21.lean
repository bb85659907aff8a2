/-
  Held once less by a keeper.
-/
import Derived.Test.YtipgffikmnebnaaKeep21
import Derived.Test.YtipgffikmnebnaaRelP21
namespace Go.Proofs.Ytipgffikmnebnaa
open Go.ChangeShapes Go.WideShapes Go.ChangeAt Go.RowKit

set_option maxRecDepth 100000
set_option linter.unusedVariables false
set_option linter.unusedSimpArgs false
open Go.MuLone Go.Conc.Locks

theorem Kept.frozen {w w' : World} (h : Kept w w') {b o : Nat} (hb : b < w.heap.size) : w'.frozen? ⟨b, o, none⟩ = w.frozen? ⟨b, o, none⟩ := h.frozen_eq b o hb

theorem But.behind {lo hi lo' hi' : Nat} {a b c : World} (h : But lo hi a b) (k : But lo' hi' b c) (hl : a.heap.size ≤ lo') : But lo hi a c :=
  ⟨k.os.trans h.os, k.out.trans h.out, Nat.le_trans h.size k.size, fun i hi' ho => (k.block i (Nat.lt_of_lt_of_le hi' h.size) (.inl (by omega))).trans (h.block i hi' ho)⟩

set_option maxHeartbeats 8000000 in
theorem ikrel_no (c : StoreD) (nm : ByteArray) (lo kb : Nat) (ao : Option Addr) (cap : Nat) (w : World) (hk : KeepO w lo kb c ao cap) (hlo : lo ≤ kb) (hS : storeB c = true) (hf : foundB nm c.2.2 = false) :
    Calls Try.prog 100 #[.pointer (some ⟨kb, 0, none⟩), .string nm] w fun e w' => ∃ v', e = .returned (.tuple #[v', .int .i64 5]) ∧ StoreO w' (w.heap.size + 1) w'.heap.size v' c ∧ But lo (kb + 1) w w' := by
  obtain ⟨s1, s2, s3, s4, s5⟩ := store_iff.1 hS
  have HU : Hid (UpR c.2.2) := up_of_rows s4
  have HRS : Hid (∀ r ∈ c.2.2, ResP c.2.1 r) := res_of_rows s4
  have HSB : Hid (storeB c = true) := hS
  clear s1 s2 s4 s5 hS
  have L0 := hk.loc
  have HOW : Hid (ResidentO w lo kb (.slice ao c.2.2.length cap) c.2.2) := hk.own
  have hkb := L0.lt
  have L1 := L0.alloc (.cells #[.int .i64 0, .int .i64 0, .slice none 0 0] 33)
  have k0 := L1.cell 0 rfl
  have kf := L1.frozen 0
  have HL1 : Hid (Loc (w.alloc (.cells #[.int .i64 0, .int .i64 0, .slice none 0 0] 33)) kb [.int .i32 0, .int .u32 0, .int .i64 c.1, .int .i64 c.2.1, .slice ao c.2.2.length cap]) := L1
  clear L0 L1 hk
  go_enter_defers Try.func100, Try.ntmps100
  repeat (first | go_values | go_skip | go_guarded | go_step | go_upon)
  refine (lock_free muLib ⟨kb, 0, none⟩ _ k0 kf).mono ?_
  rintro e w1 ⟨rfl, hw1⟩
  have W1 : Hid (Loc w1 kb [.int .i32 1, .int .u32 0, .int .i64 c.1, .int .i64 c.2.1, .slice ao c.2.2.length cap] ∧ Loc w1 w.heap.size [.int .i64 0, .int .i64 0, .slice none 0 0] ∧ ResidentO w1 lo kb (.slice ao c.2.2.length cap) c.2.2 ∧ But lo (kb + 1) w w1 ∧ w1.heap.size = w.heap.size + 1) := by
    subst hw1
    have B0 : But kb (kb + 1) (w.alloc (.cells #[.int .i64 0, .int .i64 0, .slice none 0 0] 33)) ((w.alloc (.cells #[.int .i64 0, .int .i64 0, .slice none 0 0] 33)).setCell ⟨kb, 0, none⟩ (.int .i32 1)) := (But.refl _ _ _).setCell (by simp) (by simp) _
    refine ⟨HL1.out.set 0 (.int .i32 1), (Loc.new w [.int .i64 0, .int .i64 0, .slice none 0 0] 33).other (by omega) _, (HOW.out.kept ((But.refl _ _ _).alloc _)).but B0 (by omega), ((But.refl _ _ _).alloc _).trans ((But.refl _ _ _).setCell (by simp; omega) (by simp) _), by simp⟩
  clear hw1 k0 kf HL1
  have v2 := W1.out.1.cell 2 rfl
  have v3 := W1.out.1.cell 3 rfl
  have v4 := W1.out.1.cell 4 rfl
  have vl := W1.out.1.lt
  have HF : Hid (Calls Try.prog 114 #[.slice ao c.2.2.length cap, .string nm] w1 fun e w' => e = .returned (.tuple #[.int .i64 (posL nm c.2.2 : Nat), .bool (foundB nm c.2.2)]) ∧ Kept w1 w') := ifind c.2.2 nm _ w1 W1.out.2.2.1.at (by omega) HU.out
  dsimp only
  repeat (first | go_values | go_skip | go_guarded | go_step | go_upon)
  rw [hf] at HF
  go_at_call 114
  refine HF.out.mono ?_
  rintro e w2 ⟨rfl, k2⟩
  have v2 := Kept.cell k2 v2
  have v3 := Kept.cell k2 v3
  have v4 := Kept.cell k2 v4
  have vl := Nat.lt_of_lt_of_le vl k2.size
  dsimp only
  repeat (first | go_values | go_skip | go_guarded | go_step | go_upon)
  go_at_call 110
  refine (icopy c _ _ ⟨_, rfl, W1.out.2.2.1.at.kept k2⟩ (by omega)).mono ?_
  rintro e w3 ⟨v3', rfl, o3, k3⟩
  obtain ⟨ao3, cap3, hf3⟩ := o3.form
  subst hf3
  have HO3 : Hid (StoreO w3 (w2.heap.size + 2) w3.heap.size (.agg #[.int .i64 c.1, .int .i64 c.2.1, .slice ao3 c.2.2.length cap3]) c) := o3
  have R3 := W1.out.2.1.kept (k2.trans k3)
  have L3 := W1.out.1.kept (k2.trans k3)
  have r0 := R3.cell 0 rfl
  have r1 := R3.cell 1 rfl
  have r2 := R3.cell 2 rfl
  have rf0 := R3.frozen 0
  have rf1 := R3.frozen 1
  have rf2 := R3.frozen 2
  have v0 := L3.cell 0 rfl
  have vf := L3.frozen 0
  have rl := R3.lt
  have kl := L3.lt
  have HB3 : Hid (But lo (kb + 1) w w3) := W1.out.2.2.2.1.transK (k2.trans k3)
  have HS2 : Hid (w.heap.size + 1 ≤ w2.heap.size) := by show _ ≤ _; have := k2.size; have := W1.out.2.2.2.2; omega
  have hne : kb ≠ w.heap.size := by omega
  have hne2 : w.heap.size ≠ kb := by omega
  clear o3 R3 L3
  dsimp only
  repeat (first | go_values | go_skip | go_guarded | go_step | go_upon)
  have B4 : But w.heap.size (w.heap.size + 1) w3 (((w3.setCell ⟨w.heap.size, 0, none⟩ (.int .i64 c.1)).setCell ⟨w.heap.size, 1, none⟩ (.int .i64 c.2.1)).setCell ⟨w.heap.size, 2, none⟩ (.slice ao3 c.2.2.length cap3)) := (((But.refl _ _ _).setCell (by simp) (by simp) _).setCell (by simp) (by simp) _).setCell (by simp) (by simp) _
  have c4 : (((w3.setCell ⟨w.heap.size, 0, none⟩ (.int .i64 c.1)).setCell ⟨w.heap.size, 1, none⟩ (.int .i64 c.2.1)).setCell ⟨w.heap.size, 2, none⟩ (.slice ao3 c.2.2.length cap3)).cell? ⟨kb, 0, none⟩ = some (.int .i32 1) := But.cell B4 v0 (.inl (show kb < w.heap.size by omega))
  have f4 : (((w3.setCell ⟨w.heap.size, 0, none⟩ (.int .i64 c.1)).setCell ⟨w.heap.size, 1, none⟩ (.int .i64 c.2.1)).setCell ⟨w.heap.size, 2, none⟩ (.slice ao3 c.2.2.length cap3)).frozen? ⟨kb, 0, none⟩ = false := by simp [vf]
  refine leaves_cons (f := 112) (args := #[.pointer (some ⟨kb, 0, none⟩)]) (by simp) (by simp [go_sem]) ?_
  refine (unlock_deferred muLib ⟨kb, 0, none⟩ .returning _ c4 f4).mono ?_
  rintro e u' w9 ⟨rfl, rfl, rfl⟩
  have B5 : But kb (kb + 1) (((w3.setCell ⟨w.heap.size, 0, none⟩ (.int .i64 c.1)).setCell ⟨w.heap.size, 1, none⟩ (.int .i64 c.2.1)).setCell ⟨w.heap.size, 2, none⟩ (.slice ao3 c.2.2.length cap3)) ((((w3.setCell ⟨w.heap.size, 0, none⟩ (.int .i64 c.1)).setCell ⟨w.heap.size, 1, none⟩ (.int .i64 c.2.1)).setCell ⟨w.heap.size, 2, none⟩ (.slice ao3 c.2.2.length cap3)).setCell ⟨kb, 0, none⟩ (.int .i32 0)) := (But.refl _ _ _).setCell (by simp) (by simp) _
  refine ⟨.tuple #[.agg #[.int .i64 c.1, .int .i64 c.2.1, .slice ao3 c.2.2.length cap3], .int .i64 5], ?_, _, rfl, ?_, ?_⟩
  · simp [results, Try.results100, go_sem, *]
  · exact (((HO3.out.but B4 (by have := HS2.out; omega)).but B5 (by have := HS2.out; omega)).mono (by have := HS2.out; omega) (Nat.le_refl _)).low
  · exact (But.behind HB3.out B4 (Nat.le_refl _)).trans (B5.mono (by omega) (Nat.le_refl _))

set_option maxHeartbeats 8000000 in
theorem ikrel_loose (c : StoreD) (nm : ByteArray) (lo kb : Nat) (ao : Option Addr) (cap : Nat) (w : World) (hk : KeepO w lo kb c ao cap) (hlo : lo ≤ kb) (hS : storeB c = true) (hf : foundB nm c.2.2 = true) (d : ResidentD) (hd0 : c.2.2[posL nm c.2.2]? = some d) (hy : d.2.2.1 = 0) :
    Calls Try.prog 100 #[.pointer (some ⟨kb, 0, none⟩), .string nm] w fun e w' => ∃ v', e = .returned (.tuple #[v', .int .i64 5]) ∧ StoreO w' (w.heap.size + 1) w'.heap.size v' c ∧ But lo (kb + 1) w w' := by
  obtain ⟨s1, s2, s3, s4, s5⟩ := store_iff.1 hS
  have HU : Hid (UpR c.2.2) := up_of_rows s4
  have HRS : Hid (∀ r ∈ c.2.2, ResP c.2.1 r) := res_of_rows s4
  have HSB : Hid (storeB c = true) := hS
  clear s1 s2 s4 s5 hS
  have L0 := hk.loc
  have HOW : Hid (ResidentO w lo kb (.slice ao c.2.2.length cap) c.2.2) := hk.own
  have hkb := L0.lt
  have L1 := L0.alloc (.cells #[.int .i64 0, .int .i64 0, .slice none 0 0] 33)
  have k0 := L1.cell 0 rfl
  have kf := L1.frozen 0
  have HL1 : Hid (Loc (w.alloc (.cells #[.int .i64 0, .int .i64 0, .slice none 0 0] 33)) kb [.int .i32 0, .int .u32 0, .int .i64 c.1, .int .i64 c.2.1, .slice ao c.2.2.length cap]) := L1
  clear L0 L1 hk
  go_enter_defers Try.func100, Try.ntmps100
  repeat (first | go_values | go_skip | go_guarded | go_step | go_upon)
  refine (lock_free muLib ⟨kb, 0, none⟩ _ k0 kf).mono ?_
  rintro e w1 ⟨rfl, hw1⟩
  have W1 : Hid (Loc w1 kb [.int .i32 1, .int .u32 0, .int .i64 c.1, .int .i64 c.2.1, .slice ao c.2.2.length cap] ∧ Loc w1 w.heap.size [.int .i64 0, .int .i64 0, .slice none 0 0] ∧ ResidentO w1 lo kb (.slice ao c.2.2.length cap) c.2.2 ∧ But lo (kb + 1) w w1 ∧ w1.heap.size = w.heap.size + 1) := by
    subst hw1
    have B0 : But kb (kb + 1) (w.alloc (.cells #[.int .i64 0, .int .i64 0, .slice none 0 0] 33)) ((w.alloc (.cells #[.int .i64 0, .int .i64 0, .slice none 0 0] 33)).setCell ⟨kb, 0, none⟩ (.int .i32 1)) := (But.refl _ _ _).setCell (by simp) (by simp) _
    refine ⟨HL1.out.set 0 (.int .i32 1), (Loc.new w [.int .i64 0, .int .i64 0, .slice none 0 0] 33).other (by omega) _, (HOW.out.kept ((But.refl _ _ _).alloc _)).but B0 (by omega), ((But.refl _ _ _).alloc _).trans ((But.refl _ _ _).setCell (by simp; omega) (by simp) _), by simp⟩
  clear hw1 k0 kf HL1
  have v2 := W1.out.1.cell 2 rfl
  have v3 := W1.out.1.cell 3 rfl
  have v4 := W1.out.1.cell 4 rfl
  have vl := W1.out.1.lt
  have HF : Hid (Calls Try.prog 114 #[.slice ao c.2.2.length cap, .string nm] w1 fun e w' => e = .returned (.tuple #[.int .i64 (posL nm c.2.2 : Nat), .bool (foundB nm c.2.2)]) ∧ Kept w1 w') := ifind c.2.2 nm _ w1 W1.out.2.2.1.at (by omega) HU.out
  dsimp only
  repeat (first | go_values | go_skip | go_guarded | go_step | go_upon)
  rw [hf] at HF
  have hd := hd0
  have hrs := HRS.out d (List.mem_of_getElem? hd)
  obtain ⟨y0, y1, y2, y3⟩ := d
  dsimp only at hy hrs
  have HD : Hid (c.2.2[posL nm c.2.2]? = some (y0, y1, y2, y3)) := hd
  have hpl : posL nm c.2.2 < c.2.2.length := (List.getElem?_eq_some_iff.1 hd).1
  have hy1 : 0 ≤ y2 ∧ y2 ≤ 1000 := hrs.2.2.1
  generalize posL nm c.2.2 = C0 at *
  clear hd hd0 hrs
  go_at_call 114
  refine HF.out.mono ?_
  rintro e w2 ⟨rfl, k2⟩
  have v2 := Kept.cell k2 v2
  have v3 := Kept.cell k2 v3
  have v4 := Kept.cell k2 v4
  have vl := Nat.lt_of_lt_of_le vl k2.size
  obtain ⟨b, o, cap', e9, q0, q1, q2, q3⟩ := resident_get (W1.out.2.2.1.at.kept k2) HD.out
  cases e9
  have ql := World.block_lt_of_cell? _ _ q2
  have z0 : (0 : Int) ≤ (C0 : Int) := by omega
  have z1 : (C0 : Int) < (c.2.2.length : Int) := by omega
  have hz : (y2 == 0) = true := by simp [hy]
  clear hy
  dsimp only
  repeat (first | go_values | go_skip | go_guarded | go_step | go_upon)
  go_at_call 138
  refine (iloose _ _ _ _ _).mono ?_
  rintro e w22 ⟨rfl, k22⟩
  rw [hz]
  have k2 := k2.trans k22
  have v2 := Kept.cell k22 v2
  have v3 := Kept.cell k22 v3
  have v4 := Kept.cell k22 v4
  have vl := Nat.lt_of_lt_of_le vl k22.size
  clear k22 q0 q1 q2 q3 ql hz
  dsimp only
  repeat (first | go_values | go_skip | go_guarded | go_step | go_upon)
  go_at_call 110
  refine (icopy c _ _ ⟨_, rfl, W1.out.2.2.1.at.kept k2⟩ (by omega)).mono ?_
  rintro e w3 ⟨v3', rfl, o3, k3⟩
  obtain ⟨ao3, cap3, hf3⟩ := o3.form
  subst hf3
  have HO3 : Hid (StoreO w3 (w22.heap.size + 2) w3.heap.size (.agg #[.int .i64 c.1, .int .i64 c.2.1, .slice ao3 c.2.2.length cap3]) c) := o3
  have R3 := W1.out.2.1.kept (k2.trans k3)
  have L3 := W1.out.1.kept (k2.trans k3)
  have r0 := R3.cell 0 rfl
  have r1 := R3.cell 1 rfl
  have r2 := R3.cell 2 rfl
  have rf0 := R3.frozen 0
  have rf1 := R3.frozen 1
  have rf2 := R3.frozen 2
  have v0 := L3.cell 0 rfl
  have vf := L3.frozen 0
  have rl := R3.lt
  have kl := L3.lt
  have HB3 : Hid (But lo (kb + 1) w w3) := W1.out.2.2.2.1.transK (k2.trans k3)
  have HS2 : Hid (w.heap.size + 1 ≤ w22.heap.size) := by show _ ≤ _; have := k2.size; have := W1.out.2.2.2.2; omega
  have hne : kb ≠ w.heap.size := by omega
  have hne2 : w.heap.size ≠ kb := by omega
  clear o3 R3 L3
  dsimp only
  repeat (first | go_values | go_skip | go_guarded | go_step | go_upon)
  have B4 : But w.heap.size (w.heap.size + 1) w3 (((w3.setCell ⟨w.heap.size, 0, none⟩ (.int .i64 c.1)).setCell ⟨w.heap.size, 1, none⟩ (.int .i64 c.2.1)).setCell ⟨w.heap.size, 2, none⟩ (.slice ao3 c.2.2.length cap3)) := (((But.refl _ _ _).setCell (by simp) (by simp) _).setCell (by simp) (by simp) _).setCell (by simp) (by simp) _
  have c4 : (((w3.setCell ⟨w.heap.size, 0, none⟩ (.int .i64 c.1)).setCell ⟨w.heap.size, 1, none⟩ (.int .i64 c.2.1)).setCell ⟨w.heap.size, 2, none⟩ (.slice ao3 c.2.2.length cap3)).cell? ⟨kb, 0, none⟩ = some (.int .i32 1) := But.cell B4 v0 (.inl (show kb < w.heap.size by omega))
  have f4 : (((w3.setCell ⟨w.heap.size, 0, none⟩ (.int .i64 c.1)).setCell ⟨w.heap.size, 1, none⟩ (.int .i64 c.2.1)).setCell ⟨w.heap.size, 2, none⟩ (.slice ao3 c.2.2.length cap3)).frozen? ⟨kb, 0, none⟩ = false := by simp [vf]
  refine leaves_cons (f := 112) (args := #[.pointer (some ⟨kb, 0, none⟩)]) (by simp) (by simp [go_sem]) ?_
  refine (unlock_deferred muLib ⟨kb, 0, none⟩ .returning _ c4 f4).mono ?_
  rintro e u' w9 ⟨rfl, rfl, rfl⟩
  have B5 : But kb (kb + 1) (((w3.setCell ⟨w.heap.size, 0, none⟩ (.int .i64 c.1)).setCell ⟨w.heap.size, 1, none⟩ (.int .i64 c.2.1)).setCell ⟨w.heap.size, 2, none⟩ (.slice ao3 c.2.2.length cap3)) ((((w3.setCell ⟨w.heap.size, 0, none⟩ (.int .i64 c.1)).setCell ⟨w.heap.size, 1, none⟩ (.int .i64 c.2.1)).setCell ⟨w.heap.size, 2, none⟩ (.slice ao3 c.2.2.length cap3)).setCell ⟨kb, 0, none⟩ (.int .i32 0)) := (But.refl _ _ _).setCell (by simp) (by simp) _
  refine ⟨.tuple #[.agg #[.int .i64 c.1, .int .i64 c.2.1, .slice ao3 c.2.2.length cap3], .int .i64 5], ?_, _, rfl, ?_, ?_⟩
  · simp [results, Try.results100, go_sem, *]
  · exact (((HO3.out.but B4 (by have := HS2.out; omega)).but B5 (by have := HS2.out; omega)).mono (by have := HS2.out; omega) (Nat.le_refl _)).low
  · exact (But.behind HB3.out B4 (Nat.le_refl _)).trans (B5.mono (by omega) (Nat.le_refl _))

set_option maxHeartbeats 8000000 in
theorem ikrel_held (c : StoreD) (nm : ByteArray) (lo kb : Nat) (ao : Option Addr) (cap : Nat) (w : World) (hk : KeepO w lo kb c ao cap) (hlo : lo ≤ kb) (hS : storeB c = true) (hf : foundB nm c.2.2 = true) (d : ResidentD) (hd0 : c.2.2[posL nm c.2.2]? = some d) (hy : 0 < d.2.2.1) (R : StoreD) (hR1 : R.1 = c.1) (hR2 : R.2.1 = c.2.1) (hR3 : R.2.2 = c.2.2.set (posL nm c.2.2) (d.1, d.2.1, d.2.2.1 - 1, d.2.2.2)) :
    Calls Try.prog 100 #[.pointer (some ⟨kb, 0, none⟩), .string nm] w fun e w' => ∃ v', e = .returned (.tuple #[v', .int .i64 0]) ∧ StoreO w' (w.heap.size + 1) w'.heap.size v' R ∧ But lo (kb + 1) w w' := by
  obtain ⟨s1, s2, s3, s4, s5⟩ := store_iff.1 hS
  have HU : Hid (UpR c.2.2) := up_of_rows s4
  have HRS : Hid (∀ r ∈ c.2.2, ResP c.2.1 r) := res_of_rows s4
  have HSB : Hid (storeB c = true) := hS
  clear s1 s2 s4 s5 hS
  have L0 := hk.loc
  have HOW : Hid (ResidentO w lo kb (.slice ao c.2.2.length cap) c.2.2) := hk.own
  have hkb := L0.lt
  have L1 := L0.alloc (.cells #[.int .i64 0, .int .i64 0, .slice none 0 0] 33)
  have k0 := L1.cell 0 rfl
  have kf := L1.frozen 0
  have HL1 : Hid (Loc (w.alloc (.cells #[.int .i64 0, .int .i64 0, .slice none 0 0] 33)) kb [.int .i32 0, .int .u32 0, .int .i64 c.1, .int .i64 c.2.1, .slice ao c.2.2.length cap]) := L1
  clear L0 L1 hk
  go_enter_defers Try.func100, Try.ntmps100
  repeat (first | go_values | go_skip | go_guarded | go_step | go_upon)
  refine (lock_free muLib ⟨kb, 0, none⟩ _ k0 kf).mono ?_
  rintro e w1 ⟨rfl, hw1⟩
  have W1 : Hid (Loc w1 kb [.int .i32 1, .int .u32 0, .int .i64 c.1, .int .i64 c.2.1, .slice ao c.2.2.length cap] ∧ Loc w1 w.heap.size [.int .i64 0, .int .i64 0, .slice none 0 0] ∧ ResidentO w1 lo kb (.slice ao c.2.2.length cap) c.2.2 ∧ But lo (kb + 1) w w1 ∧ w1.heap.size = w.heap.size + 1) := by
    subst hw1
    have B0 : But kb (kb + 1) (w.alloc (.cells #[.int .i64 0, .int .i64 0, .slice none 0 0] 33)) ((w.alloc (.cells #[.int .i64 0, .int .i64 0, .slice none 0 0] 33)).setCell ⟨kb, 0, none⟩ (.int .i32 1)) := (But.refl _ _ _).setCell (by simp) (by simp) _
    refine ⟨HL1.out.set 0 (.int .i32 1), (Loc.new w [.int .i64 0, .int .i64 0, .slice none 0 0] 33).other (by omega) _, (HOW.out.kept ((But.refl _ _ _).alloc _)).but B0 (by omega), ((But.refl _ _ _).alloc _).trans ((But.refl _ _ _).setCell (by simp; omega) (by simp) _), by simp⟩
  clear hw1 k0 kf HL1
  have v2 := W1.out.1.cell 2 rfl
  have v3 := W1.out.1.cell 3 rfl
  have v4 := W1.out.1.cell 4 rfl
  have vl := W1.out.1.lt
  have HF : Hid (Calls Try.prog 114 #[.slice ao c.2.2.length cap, .string nm] w1 fun e w' => e = .returned (.tuple #[.int .i64 (posL nm c.2.2 : Nat), .bool (foundB nm c.2.2)]) ∧ Kept w1 w') := ifind c.2.2 nm _ w1 W1.out.2.2.1.at (by omega) HU.out
  dsimp only
  repeat (first | go_values | go_skip | go_guarded | go_step | go_upon)
  have HR1 : Hid (R.1 = c.1) := hR1
  have HR2 : Hid (R.2.1 = c.2.1) := hR2
  have HR3 : Hid (R.2.2 = c.2.2.set (posL nm c.2.2) (d.1, d.2.1, d.2.2.1 - 1, d.2.2.2)) := hR3
  clear hR1 hR2 hR3
  rw [hf] at HF
  have hd := hd0
  have hrs := HRS.out d (List.mem_of_getElem? hd)
  obtain ⟨y0, y1, y2, y3⟩ := d
  dsimp only at hy hrs
  have HD : Hid (c.2.2[posL nm c.2.2]? = some (y0, y1, y2, y3)) := hd
  have hpl : posL nm c.2.2 < c.2.2.length := (List.getElem?_eq_some_iff.1 hd).1
  have hy1 : 0 ≤ y2 ∧ y2 ≤ 1000 := hrs.2.2.1
  generalize posL nm c.2.2 = C0 at *
  clear hd hd0 hrs
  go_at_call 114
  refine HF.out.mono ?_
  rintro e w2 ⟨rfl, k2⟩
  have v2 := Kept.cell k2 v2
  have v3 := Kept.cell k2 v3
  have v4 := Kept.cell k2 v4
  have vl := Nat.lt_of_lt_of_le vl k2.size
  have hown : ResidentO w2 lo kb (.slice ao c.2.2.length cap) c.2.2 := W1.out.2.2.1.kept k2
  obtain ⟨b, o, cap', e9, q0, q1, q2, q3⟩ := resident_get hown.at HD.out
  cases e9
  obtain ⟨cap2, hfm⟩ : ∃ cap2, Value.slice (some ⟨b, o, none⟩) c.2.2.length cap = .slice (some ⟨b, 0, none⟩) c.2.2.length cap2 := by
    rcases hown.1.2 with ⟨hv, _⟩ | ⟨g, c2, cur, hv, _⟩
    · cases hv
    · cases hv; exact ⟨_, rfl⟩
  cases hfm
  simp only [Nat.zero_add] at q0 q1 q2 q3
  have ql := World.block_lt_of_cell? _ _ q2
  have qf := (hown.cells HD.out).2.2.2.2 (C0 * 4 + 2)
  have z0 : (0 : Int) ≤ (C0 : Int) := by omega
  have z1 : (C0 : Int) < (c.2.2.length : Int) := by omega
  have hz : (y2 == 0) = false := by simp; omega
  have hwr : IntKind.i64.wrap (y2 - 1) = y2 - 1 := IntWalk.i64_in _ (by omega)
  have HOWN : Hid (ResidentO w2 lo kb (.slice (some ⟨b, 0, none⟩) c.2.2.length cap) c.2.2) := hown
  have hbk : b < kb := hown.2 b rfl
  have hbk2 : b ≠ kb := by omega
  have hbk3 : kb ≠ b := by omega
  clear hown
  dsimp only
  repeat (first | go_values | go_skip | go_guarded | go_step | go_upon)
  go_at_call 138
  refine (iloose _ _ _ _ _).mono ?_
  rintro e w22 ⟨rfl, k22⟩
  rw [hz]
  have v2 := Kept.cell k22 v2
  have v3 := Kept.cell k22 v3
  have v4 := Kept.cell k22 v4
  have q2 := Kept.cell k22 q2
  have qf := (Kept.frozen k22 ql).trans qf
  have ql := Nat.lt_of_lt_of_le ql k22.size
  have vl := Nat.lt_of_lt_of_le vl k22.size
  have HO22 : Hid (ResidentO w22 lo kb (.slice (some ⟨b, 0, none⟩) c.2.2.length cap) c.2.2) := HOWN.out.kept k22
  have hk22 := k2.trans k22
  have HK22 : Hid (Kept w1 w22) := hk22
  clear k22 k2 q0 q1 q3 hz hk22
  dsimp only
  repeat (first | go_values | go_skip | go_guarded | go_step | go_upon)
  have hbl : lo ≤ b := (own_lt HOWN.out.1 (g := b) rfl).1
  have BS : But b (b + 1) w22 (w22.setCell ⟨b, C0 * 4 + 2, none⟩ (.int .i64 (y2 - 1))) := (But.refl _ _ _).setCell (by simp) (by simp) _
  have OS : ResidentO (w22.setCell ⟨b, C0 * 4 + 2, none⟩ (.int .i64 (y2 - 1))) lo kb (.slice (some ⟨b, 0, none⟩) c.2.2.length cap) R.2.2 := by
    rw [HR3.out]
    exact HO22.out.set rfl HD.out 2 (by omega) (.int .i64 (y2 - 1)) (q := (y0, y1, y2 - 1, y3)) rfl
  obtain ⟨w2, hw2⟩ : ∃ w2, w22.setCell ⟨b, C0 * 4 + 2, none⟩ (.int .i64 (y2 - 1)) = w2 := ⟨_, rfl⟩
  rw [hw2] at BS OS ⊢
  have hlR : R.2.2.length ≤ 30 := by rw [HR3.out, List.length_set]; omega
  have hBW : But lo (kb + 1) w1 w2 := (But.of HK22.out).trans (BS.mono (by omega) (by omega))
  have L2 := (W1.out.1.kept HK22.out).but BS (by omega)
  have R2 := (W1.out.2.1.kept HK22.out).but BS (by omega)
  have hsz2 : w1.heap.size ≤ w2.heap.size := hBW.size
  clear hw2 v2 v3 v4 vl q2 qf ql
  go_at_call 110
  refine (icopy R _ _ ⟨_, by rw [HR1.out, HR2.out], OS.at⟩ (by omega)).mono ?_
  rintro e w3 ⟨v3', rfl, o3, k3⟩
  obtain ⟨ao3, cap3, hf3⟩ := o3.form
  subst hf3
  have HO3 : Hid (StoreO w3 (w2.heap.size + 2) w3.heap.size (.agg #[.int .i64 R.1, .int .i64 R.2.1, .slice ao3 R.2.2.length cap3]) R) := o3
  have R3 := R2.kept k3
  have L3 := L2.kept k3
  have r0 := R3.cell 0 rfl
  have r1 := R3.cell 1 rfl
  have r2 := R3.cell 2 rfl
  have rf0 := R3.frozen 0
  have rf1 := R3.frozen 1
  have rf2 := R3.frozen 2
  have v0 := L3.cell 0 rfl
  have vf := L3.frozen 0
  have rl := R3.lt
  have kl := L3.lt
  have HB3 : Hid (But lo (kb + 1) w w3) := (W1.out.2.2.2.1.trans hBW).transK k3
  have HS2 : Hid (w.heap.size + 1 ≤ w2.heap.size) := by show _ ≤ _; have := W1.out.2.2.2.2; omega
  have hne : kb ≠ w.heap.size := by omega
  have hne2 : w.heap.size ≠ kb := by omega
  clear o3 R3 L3
  dsimp only
  repeat (first | go_values | go_skip | go_guarded | go_step | go_upon)
  have B4 : But w.heap.size (w.heap.size + 1) w3 (((w3.setCell ⟨w.heap.size, 0, none⟩ (.int .i64 R.1)).setCell ⟨w.heap.size, 1, none⟩ (.int .i64 R.2.1)).setCell ⟨w.heap.size, 2, none⟩ (.slice ao3 R.2.2.length cap3)) := (((But.refl _ _ _).setCell (by simp) (by simp) _).setCell (by simp) (by simp) _).setCell (by simp) (by simp) _
  have c4 : (((w3.setCell ⟨w.heap.size, 0, none⟩ (.int .i64 R.1)).setCell ⟨w.heap.size, 1, none⟩ (.int .i64 R.2.1)).setCell ⟨w.heap.size, 2, none⟩ (.slice ao3 R.2.2.length cap3)).cell? ⟨kb, 0, none⟩ = some (.int .i32 1) := But.cell B4 v0 (.inl (show kb < w.heap.size by omega))
  have f4 : (((w3.setCell ⟨w.heap.size, 0, none⟩ (.int .i64 R.1)).setCell ⟨w.heap.size, 1, none⟩ (.int .i64 R.2.1)).setCell ⟨w.heap.size, 2, none⟩ (.slice ao3 R.2.2.length cap3)).frozen? ⟨kb, 0, none⟩ = false := by simp [vf]
  refine leaves_cons (f := 112) (args := #[.pointer (some ⟨kb, 0, none⟩)]) (by simp) (by simp [go_sem]) ?_
  refine (unlock_deferred muLib ⟨kb, 0, none⟩ .returning _ c4 f4).mono ?_
  rintro e u' w9 ⟨rfl, rfl, rfl⟩
  have B5 : But kb (kb + 1) (((w3.setCell ⟨w.heap.size, 0, none⟩ (.int .i64 R.1)).setCell ⟨w.heap.size, 1, none⟩ (.int .i64 R.2.1)).setCell ⟨w.heap.size, 2, none⟩ (.slice ao3 R.2.2.length cap3)) ((((w3.setCell ⟨w.heap.size, 0, none⟩ (.int .i64 R.1)).setCell ⟨w.heap.size, 1, none⟩ (.int .i64 R.2.1)).setCell ⟨w.heap.size, 2, none⟩ (.slice ao3 R.2.2.length cap3)).setCell ⟨kb, 0, none⟩ (.int .i32 0)) := (But.refl _ _ _).setCell (by simp) (by simp) _
  refine ⟨.tuple #[.agg #[.int .i64 R.1, .int .i64 R.2.1, .slice ao3 R.2.2.length cap3], .int .i64 0], ?_, _, rfl, ?_, ?_⟩
  · simp [results, Try.results100, go_sem, *]
  · exact (((HO3.out.but B4 (by have := HS2.out; omega)).but B5 (by have := HS2.out; omega)).mono (by have := HS2.out; omega) (Nat.le_refl _)).low
  · exact (But.behind HB3.out B4 (Nat.le_refl _)).trans (B5.mono (by omega) (Nat.le_refl _))

end Go.Proofs.Ytipgffikmnebnaa
