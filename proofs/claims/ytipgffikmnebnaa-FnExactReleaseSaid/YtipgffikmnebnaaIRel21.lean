/-
  Release in the program.
-/
import Derived.Test.YtipgffikmnebnaaKRel21
import Derived.Test.YtipgffikmnebnaaIGood21
namespace Go.Proofs.Ytipgffikmnebnaa
open Go.ChangeShapes Go.WideShapes Go.ChangeAt Go.RowKit

set_option maxRecDepth 100000
set_option linter.unusedVariables false
set_option linter.unusedSimpArgs false

theorem ikrel (c : StoreD) (nm : ByteArray) (lo kb : Nat) (ao : Option Addr) (cap : Nat) (w : World) (hk : KeepO w lo kb c ao cap) (hlo : lo ≤ kb) (hS : storeB c = true) :
    Calls Try.prog 100 #[.pointer (some ⟨kb, 0, none⟩), .string nm] w fun e w' => ∃ v', e = .returned (.tuple #[v', .int .i64 (relC c nm)]) ∧ StoreO w' (w.heap.size + 1) w'.heap.size v' (relS c nm) ∧ But lo (kb + 1) w w' := by
  obtain ⟨s1, s2, s3, s4, s5⟩ := store_iff.1 hS
  have hU : UpR c.2.2 := up_of_rows s4
  cases hf : foundB nm c.2.2 with
  | false =>
    have hcode : relC c nm = 5 := by unfold relC; rw [if_pos hS, rel_no hU hf]
    have hst : relS c nm = c := by unfold relS; rw [if_pos hS, rel_no hU hf]
    rw [hcode, hst]
    exact ikrel_no c nm lo kb ao cap w hk hlo hS hf
  | true =>
    obtain ⟨d, hd⟩ : ∃ d, c.2.2[posL nm c.2.2]? = some d := by
      cases h : c.2.2[posL nm c.2.2]? with
      | none => rw [found_no h] at hf; cases hf
      | some d => exact ⟨d, rfl⟩
    have hra := rel_at hU hf hd
    have hrp := res_of_rows s4 d (List.mem_of_getElem? hd)
    by_cases hy : 0 < d.2.2.1
    · rw [if_pos hy] at hra
      have hcode : relC c nm = 0 := by unfold relC; rw [if_pos hS, hra]
      have hst : relS c nm = (c.1, c.2.1, c.2.2.set (posL nm c.2.2) (d.1, d.2.1, d.2.2.1 - 1, d.2.2.2)) := by unfold relS; rw [if_pos hS, hra]; simp only [less1_eq hd]
      rw [hcode]
      exact ikrel_held c nm lo kb ao cap w hk hlo hS hf d hd hy (relS c nm) (by rw [hst]) (by rw [hst]) (by rw [hst])
    · rw [if_neg hy] at hra
      have hcode : relC c nm = 5 := by unfold relC; rw [if_pos hS, hra]
      have hst : relS c nm = c := by unfold relS; rw [if_pos hS, hra]
      rw [hcode, hst]
      exact ikrel_loose c nm lo kb ao cap w hk hlo hS hf d hd (by have := hrp.2.2.1.1; omega)
set_option maxHeartbeats 4000000 in
theorem irel (c : StoreD) (nm : ByteArray) (v : Value) (lo hi : Nat) (w : World) (hv : StoreO w lo hi v c) (hn : c.2.2.length ≤ 1048576) (hs : ∀ r ∈ c.2.2, r.1.size ≤ 1048576) :
    Calls Try.prog 47 #[v, .string nm] w fun e w' => ∃ v', e = .returned (.tuple #[v', .int .i64 (relC c nm)]) ∧ StoreO w' w.heap.size w'.heap.size v' (relS c nm) ∧ Kept w w' := by
  have HV : Hid (StoreO w lo hi v c) := hv
  have HS : Hid (∀ r ∈ c.2.2, r.1.size ≤ 1048576) := hs
  obtain ⟨ao, cap, hfm⟩ := hv.form
  subst hfm
  clear hv hs
  cases hg : storeB c with
  | false =>
    have hcode : relC c nm = 1 := by unfold relC; rw [if_neg (by rw [hg]; simp)]
    have hst : relS c nm = store0 := by unfold relS; rw [if_neg (by rw [hg]; simp)]
    rw [hcode, hst]
    have HG : Hid (∀ u v', Kept w u → StoreO u lo hi v' c → Calls Try.prog 42 #[v'] u fun e w' => e = .returned (.bool false) ∧ Kept u w') := fun u v' k h => by rw [← hg]; exact igood c v' lo hi u h hn HS.out
    clear hg hcode hst
    go_enter Try.func47, Try.ntmps47
    repeat (first | go_values | go_skip | go_guarded | go_step | go_upon)
    go_at_call 42
    refine (HG.out _ _ (((But.refl _ _ _).alloc _).alloc _) (HV.out.kept (((But.refl _ _ _).alloc _).alloc _))).mono ?_
    rintro e u1 ⟨rfl, k1⟩
    have R1 := (Loc.new (w.alloc (.cells #[.int .i64 c.1, .int .i64 c.2.1, .slice ao c.2.2.length cap] 33)) [.int .i64 0, .int .i64 0, .slice none 0 0] 33).kept k1
    simp only [World.size_alloc] at R1
    have r0 := R1.cell 0 rfl
    have r1 := R1.cell 1 rfl
    have r2 := R1.cell 2 rfl
    have f0 := R1.frozen 0
    have f1 := R1.frozen 1
    have f2 := R1.frozen 2
    have rl := R1.lt
    have HK1 : Hid (Kept w u1) := (((But.refl _ _ _).alloc _).alloc _).trans k1
    clear R1 k1
    dsimp only
    repeat (first | go_values | go_skip | go_guarded | go_step | go_upon)
    have B : But (w.heap.size + 1) (w.heap.size + 2) u1 (((u1.setCell ⟨w.heap.size + 1, 0, none⟩ (.int .i64 0)).setCell ⟨w.heap.size + 1, 1, none⟩ (.int .i64 0)).setCell ⟨w.heap.size + 1, 2, none⟩ (.slice none 0 0)) := (((But.refl _ _ _).setCell (by simp) (by simp) _).setCell (by simp) (by simp) _).setCell (by simp) (by simp) _
    refine bodyPost_ret (v := .tuple #[.agg #[.int .i64 0, .int .i64 0, .slice none 0 0], .int .i64 1]) (by simp [results, Try.results47, go_sem, *]) rfl ?_
    exact ⟨_, rfl, ⟨_, rfl, nil_resident _ _ _⟩, HK1.out.onto B (by omega)⟩
  | true =>
    have HGT : Hid (storeB c = true) := hg
    have HG : Hid (∀ u v', Kept w u → StoreO u lo hi v' c → Calls Try.prog 42 #[v'] u fun e w' => e = .returned (.bool true) ∧ Kept u w') := fun u v' k h => by rw [← hg]; exact igood c v' lo hi u h hn HS.out
    obtain ⟨CC, hCC⟩ : ∃ x, relC c nm = x := ⟨_, rfl⟩
    obtain ⟨RR, hRR⟩ : ∃ x, relS c nm = x := ⟨_, rfl⟩
    rw [hCC, hRR]
    have HCC : Hid (relC c nm = CC) := hCC
    have HRR : Hid (relS c nm = RR) := hRR
    clear hg hCC hRR
    go_enter Try.func47, Try.ntmps47
    repeat (first | go_values | go_skip | go_guarded | go_step | go_upon)
    go_at_call 42
    refine (HG.out _ _ (((But.refl _ _ _).alloc _).alloc _) (HV.out.kept (((But.refl _ _ _).alloc _).alloc _))).mono ?_
    rintro e u1 ⟨rfl, k1⟩
    have A1 := ((Loc.new w [.int .i64 c.1, .int .i64 c.2.1, .slice ao c.2.2.length cap] 33).alloc (.cells #[.int .i64 0, .int .i64 0, .slice none 0 0] 33)).kept k1
    have R1 := (Loc.new (w.alloc (.cells #[.int .i64 c.1, .int .i64 c.2.1, .slice ao c.2.2.length cap] 33)) [.int .i64 0, .int .i64 0, .slice none 0 0] 33).kept k1
    simp only [World.size_alloc] at R1
    have a0 := A1.cell 0 rfl
    have a1 := A1.cell 1 rfl
    have a2 := A1.cell 2 rfl
    have al := A1.lt
    have HR1 : Hid (Loc u1 (w.heap.size + 1) [.int .i64 0, .int .i64 0, .slice none 0 0]) := R1
    have HK1 : Hid (Kept w u1) := (((But.refl _ _ _).alloc _).alloc _).trans k1
    clear R1 A1 k1
    dsimp only
    repeat (first | go_values | go_skip | go_guarded | go_step | go_upon)
    go_at_call 70
    refine (ikeeper c _ _ (HV.out.at.kept HK1.out) hn).mono ?_
    rintro e u2 ⟨kb, ao2, cap2, rfl, hkeep, hkb, k2⟩
    have HKP : Hid (KeepO u2 (u1.heap.size + 1) kb c ao2 cap2 ∧ u1.heap.size + 1 ≤ kb ∧ Kept u1 u2) := ⟨hkeep, hkb, k2⟩
    clear hkeep hkb k2 a0 a1 a2 al
    dsimp only
    repeat (first | go_values | go_skip | go_guarded | go_step | go_upon)
    go_at_call 100
    refine (ikrel c nm (u1.heap.size + 1) kb ao2 cap2 u2 HKP.out.1 HKP.out.2.1 HGT.out).mono ?_
    rintro e u3 ⟨v3, he, o3, b3⟩
    rw [HCC.out] at he
    rw [HRR.out] at o3
    subst he
    obtain ⟨ao3, cap3, hf3⟩ := o3.form
    subst hf3
    have hs2 := HKP.out.2.2.size
    have HO3 : Hid (StoreO u3 (u2.heap.size + 1) u3.heap.size (.agg #[.int .i64 RR.1, .int .i64 RR.2.1, .slice ao3 RR.2.2.length cap3]) RR) := o3
    have K3 : Kept w u3 := (HK1.out.trans HKP.out.2.2).onto b3 (by have := HK1.out.size; omega)
    have R3 := (HR1.out.kept HKP.out.2.2).but b3 (.inl (by have := HR1.out.lt; omega))
    have r0 := R3.cell 0 rfl
    have r1 := R3.cell 1 rfl
    have r2 := R3.cell 2 rfl
    have f0 := R3.frozen 0
    have f1 := R3.frozen 1
    have f2 := R3.frozen 2
    have rl := R3.lt
    have HSZ : Hid (w.heap.size + 2 ≤ u2.heap.size) := by show _ ≤ _; have := HR1.out.lt; omega
    have HK3 : Hid (Kept w u3) := K3
    clear o3 b3 K3 R3 hs2
    dsimp only
    repeat (first | go_values | go_skip | go_guarded | go_step | go_upon)
    have B : But (w.heap.size + 1) (w.heap.size + 2) u3 (((u3.setCell ⟨w.heap.size + 1, 0, none⟩ (.int .i64 RR.1)).setCell ⟨w.heap.size + 1, 1, none⟩ (.int .i64 RR.2.1)).setCell ⟨w.heap.size + 1, 2, none⟩ (.slice ao3 RR.2.2.length cap3)) := (((But.refl _ _ _).setCell (by simp) (by simp) _).setCell (by simp) (by simp) _).setCell (by simp) (by simp) _
    refine bodyPost_ret (v := .tuple #[.agg #[.int .i64 RR.1, .int .i64 RR.2.1, .slice ao3 RR.2.2.length cap3], .int .i64 CC]) (by simp [results, Try.results47, go_sem, *]) rfl ?_
    exact ⟨_, rfl, ((HO3.out.but B (by have := HSZ.out; omega)).mono (by have := HSZ.out; omega) (Nat.le_refl _)).low, HK3.out.onto B (by omega)⟩

end Go.Proofs.Ytipgffikmnebnaa
