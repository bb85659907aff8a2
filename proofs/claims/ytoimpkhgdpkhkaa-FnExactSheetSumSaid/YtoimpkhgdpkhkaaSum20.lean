/-
  The sum of a sheet, on both sides.
-/
import Derived.Test.YtoimpkhgdpkhkaaGood20
namespace Go.Proofs.Ytoimpkhgdpkhkaa
open Go.ChangeShapes Go.WideShapes Go.ChangeAt Go.RowKit

set_option maxRecDepth 100000
set_option linter.unusedVariables false
set_option linter.unusedSimpArgs false

/-- The sum of a sheet's pixels. -/
def sumL : Int → List Int → Int
  | m, [] => m
  | m, p :: l => sumL ((31 * m + p) % 1000003) l
def sumA (c : SheetD) : Int := if SheetP c then sumL 7 c.2.2 else 0

set_option maxHeartbeats 4000000 in
theorem ssum (c : SheetD) (v : Value) (w : World) (hv : SheetAt w v c) (hn : c.2.2.length ≤ 1048576) :
    Calls Try.prog 33 #[v] w fun e w' => e = .returned (.tuple #[.int .i64 (sumA c), .bool (decide (SheetP c))]) ∧ Kept w w' := by
  obtain ⟨ao, cap, hfm⟩ := hv.form
  subst hfm
  have hr := hv.row
  by_cases hP : SheetP c
  · obtain ⟨S, hS⟩ : ∃ S : Int, sumA c = S := ⟨_, rfl⟩
    have HS : Hid (sumL 7 c.2.2 = S) := show sumL 7 c.2.2 = S by rw [← hS, sumA, if_pos hP]
    have dP : decide (SheetP c) = true := decide_eq_true hP
    rw [hS, dP]
    have HPP : Hid (∀ p ∈ c.2.2, 0 ≤ p ∧ p ≤ 16777215) := hP.2.2.2
    clear hS hP
    go_enter Try.func33, Try.ntmps33
    repeat (first | go_values | go_skip | go_guarded | go_step | go_upon)
    go_at_call 23
    refine (sgood c _ _ (hv.kept ((But.refl _ _ _).alloc _)) (by omega)).mono ?_
    rintro e u1 ⟨rfl, k1⟩
    rw [dP]
    dsimp only
    have L1 := (Loc.new w [.int .i64 c.1, .int .i64 c.2.1, .slice ao c.2.2.length cap] 49).kept k1
    have K1 : Kept w u1 := ((But.refl _ _ _).alloc _).trans k1
    have a2 := L1.cell 2 rfl
    have al := L1.lt
    clear k1 dP L1
    repeat (first | go_values | go_skip | go_guarded | go_step | go_upon)
    clear a2 al
    go_loopw [4, 13] (fun s i wr => ∃ (k : Nat) (m : Int), k ≤ c.2.2.length ∧ i = .int .i64 k ∧ s = .int .i64 m ∧ Hid (sumL m (c.2.2.drop k) = S) ∧ (0 ≤ m ∧ m ≤ 1000003) ∧ Kept w wr) (fun s i _ => c.2.2.length - (intOf i).toNat)
    case atStart => exact ⟨0, 7, by omega, rfl, rfl, HS, by omega, K1⟩
    case round =>
      obtain ⟨k, m, hk, rfl, rfl, HB, hm, hkp⟩ := hrel
      by_cases hlt : k < c.2.2.length
      · obtain ⟨p, hp⟩ : ∃ p, c.2.2[k]? = some p := ⟨_, List.getElem?_eq_getElem hlt⟩
        obtain ⟨g, o, cap1, ee, c0⟩ := num_get (hr.kept hkp) hp
        cases ee
        have hp2 := HPP.out p (List.mem_of_getElem? hp)
        have HK : Hid (Kept w wr) := hkp
        have HP : Hid (c.2.2[k]? = some p) := hp
        clear hkp hp hr hv
        have r0 := Int.emod_nonneg (31 * m + p) (show (1000003 : Int) ≠ 0 by omega)
        have r1 := Int.emod_lt_of_pos (31 * m + p) (show (0 : Int) < 1000003 by omega)
        have HR0 : Hid _ := r0
        have HR1 : Hid _ := r1
        clear r0 r1
        go_wp2
        refine ⟨⟨k + 1, _, hlt, by go_num, rfl, ?_, ⟨?_, ?_⟩, HK.out⟩, by simp [intOf]; omega⟩
        · show sumL _ _ = S
          rw [← HB.out]
          have hg := (List.getElem?_eq_some_iff.1 HP.out)
          rw [List.drop_eq_getElem_cons hlt, hg.2]
          rfl
        · have := HR0.out
          first | exact this | omega
        · have := HR1.out
          first | omega | exact Int.le_of_lt this
      · have hke : k = c.2.2.length := by omega
        subst hke
        have HKP : Hid (Kept w wr) := hkp
        clear hkp
        have hm2 := HB.out
        rw [List.drop_length] at hm2
        have hm3 : m = S := hm2
        subst hm3
        clear hm2
        go_wp2
        go_ret2
        exact ⟨rfl, HKP.out⟩
  · have dP : decide (SheetP c) = false := decide_eq_false hP
    rw [show sumA c = 0 by rw [sumA, if_neg hP], dP]
    clear hP
    go_enter Try.func33, Try.ntmps33
    repeat (first | go_values | go_skip | go_guarded | go_step | go_upon)
    go_at_call 23
    refine (sgood c _ _ (hv.kept ((But.refl _ _ _).alloc _)) (by omega)).mono ?_
    rintro e u1 ⟨rfl, k1⟩
    rw [dP]
    dsimp only
    repeat (first | go_values | go_skip | go_guarded | go_step | go_upon)
    go_ret2
    exact ⟨rfl, ((But.refl _ _ _).alloc _).trans k1⟩

set_option maxHeartbeats 4000000 in
theorem isum (c : SheetD) (v : Value) (w : World) (hv : SheetAt w v c) (hn : c.2.2.length ≤ 1048576) :
    Calls Try.prog 34 #[v] w fun e w' => e = .returned (.tuple #[.int .i64 (sumA c), .bool (decide (SheetP c))]) ∧ Kept w w' := by
  obtain ⟨ao, cap, hfm⟩ := hv.form
  subst hfm
  have hr := hv.row
  by_cases hP : SheetP c
  · obtain ⟨S, hS⟩ : ∃ S : Int, sumA c = S := ⟨_, rfl⟩
    have HS : Hid (sumL 7 c.2.2 = S) := show sumL 7 c.2.2 = S by rw [← hS, sumA, if_pos hP]
    have dP : decide (SheetP c) = true := decide_eq_true hP
    rw [hS, dP]
    have HPP : Hid (∀ p ∈ c.2.2, 0 ≤ p ∧ p ≤ 16777215) := hP.2.2.2
    clear hS hP
    go_enter Try.func34, Try.ntmps34
    repeat (first | go_values | go_skip | go_guarded | go_step | go_upon)
    go_at_call 25
    refine (igood c _ _ (hv.kept ((But.refl _ _ _).alloc _)) (by omega)).mono ?_
    rintro e u1 ⟨rfl, k1⟩
    rw [dP]
    dsimp only
    have L1 := (Loc.new w [.int .i64 c.1, .int .i64 c.2.1, .slice ao c.2.2.length cap] 49).kept k1
    have K1 : Kept w u1 := ((But.refl _ _ _).alloc _).trans k1
    have a2 := L1.cell 2 rfl
    have al := L1.lt
    clear k1 dP L1
    repeat (first | go_values | go_skip | go_guarded | go_step | go_upon)
    clear a2 al
    go_loopw [4, 13] (fun s i wr => ∃ (k : Nat) (m : Int), k ≤ c.2.2.length ∧ i = .int .i64 k ∧ s = .int .i64 m ∧ Hid (sumL m (c.2.2.drop k) = S) ∧ (0 ≤ m ∧ m ≤ 1000003) ∧ Kept w wr) (fun s i _ => c.2.2.length - (intOf i).toNat)
    case atStart => exact ⟨0, 7, by omega, rfl, rfl, HS, by omega, K1⟩
    case round =>
      obtain ⟨k, m, hk, rfl, rfl, HB, hm, hkp⟩ := hrel
      by_cases hlt : k < c.2.2.length
      · obtain ⟨p, hp⟩ : ∃ p, c.2.2[k]? = some p := ⟨_, List.getElem?_eq_getElem hlt⟩
        obtain ⟨g, o, cap1, ee, c0⟩ := num_get (hr.kept hkp) hp
        cases ee
        have hp2 := HPP.out p (List.mem_of_getElem? hp)
        have HK : Hid (Kept w wr) := hkp
        have HP : Hid (c.2.2[k]? = some p) := hp
        clear hkp hp hr hv
        have r0 := Int.emod_nonneg (31 * m + p) (show (1000003 : Int) ≠ 0 by omega)
        have r1 := Int.emod_lt_of_pos (31 * m + p) (show (0 : Int) < 1000003 by omega)
        have HR0 : Hid _ := r0
        have HR1 : Hid _ := r1
        clear r0 r1
        go_wp2
        refine ⟨⟨k + 1, _, hlt, by go_num, rfl, ?_, ⟨?_, ?_⟩, HK.out⟩, by simp [intOf]; omega⟩
        · show sumL _ _ = S
          rw [← HB.out]
          have hg := (List.getElem?_eq_some_iff.1 HP.out)
          rw [List.drop_eq_getElem_cons hlt, hg.2]
          rfl
        · have := HR0.out
          first | exact this | omega
        · have := HR1.out
          first | omega | exact Int.le_of_lt this
      · have hke : k = c.2.2.length := by omega
        subst hke
        have HKP : Hid (Kept w wr) := hkp
        clear hkp
        have hm2 := HB.out
        rw [List.drop_length] at hm2
        have hm3 : m = S := hm2
        subst hm3
        clear hm2
        go_wp2
        go_ret2
        exact ⟨rfl, HKP.out⟩
  · have dP : decide (SheetP c) = false := decide_eq_false hP
    rw [show sumA c = 0 by rw [sumA, if_neg hP], dP]
    clear hP
    go_enter Try.func34, Try.ntmps34
    repeat (first | go_values | go_skip | go_guarded | go_step | go_upon)
    go_at_call 25
    refine (igood c _ _ (hv.kept ((But.refl _ _ _).alloc _)) (by omega)).mono ?_
    rintro e u1 ⟨rfl, k1⟩
    rw [dP]
    dsimp only
    repeat (first | go_values | go_skip | go_guarded | go_step | go_upon)
    go_ret2
    exact ⟨rfl, ((But.refl _ _ _).alloc _).trans k1⟩

end Go.Proofs.Ytoimpkhgdpkhkaa
