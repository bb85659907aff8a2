/-
  With how many alike bytes both begin.
-/
import Derived.Test.YtipgffikmnebnaaPatP21
import Derived.Test.YtipgffikmnebnaaQuiet
import Derived.BigQuiet
namespace Go.Proofs.Ytipgffikmnebnaa
open Go.ChangeShapes Go.WideShapes Go.ChangeAt Go.RowKit

set_option maxRecDepth 100000
set_option linter.unusedVariables false
set_option linter.unusedSimpArgs false

set_option maxHeartbeats 4000000 in
theorem ialikeB (x y : List UInt8) (a1 a2 : Option Addr) (c1 c2 : Nat) (w : World) (hx : BytAt w (.slice a1 x.length c1) x) (hy : BytAt w (.slice a2 y.length c2) y) (hxl : x.length ≤ 1048576) (hyl : y.length ≤ 1048576) :
    Calls Try.prog 120 #[.slice a1 x.length c1, .slice a2 y.length c2] w fun e w' => e = .returned (.int .i64 (alikeN x y : Nat)) ∧ Kept w w' := by
  obtain ⟨R, hR⟩ : ∃ r, alikeN x y = r := ⟨_, rfl⟩
  have HR : Hid (alikeN x y = R) := hR
  rw [hR]
  clear hR
  have HX : Hid (BytAt w (.slice a1 x.length c1) x) := hx
  have HY : Hid (BytAt w (.slice a2 y.length c2) y) := hy
  clear hx hy
  go_enter Try.func120, Try.ntmps120
  repeat (first | go_values | go_skip | go_guarded | go_step | go_upon)
  go_loopw [5] (fun s wr => ∃ (k : Nat), k ≤ x.length ∧ k ≤ y.length ∧ s = .int .i64 k ∧ Hid (k + alikeN (x.drop k) (y.drop k) = R) ∧ Kept w wr) (fun s _ => x.length - (intOf s).toNat)
  case atStart => exact ⟨0, by omega, by omega, rfl, by show _ = _; rw [Nat.zero_add]; exact HR.out, But.refl _ _ _⟩
  case round =>
    obtain ⟨k, hk1, hk2, rfl, HB, hkp⟩ := hrel
    have HKP : Hid (Kept w wr) := hkp
    by_cases h1 : k < x.length
    · by_cases h2 : k < y.length
      · obtain ⟨a, ha⟩ : ∃ p, x[k]? = some p := ⟨_, List.getElem?_eq_getElem h1⟩
        obtain ⟨b, hb⟩ : ∃ p, y[k]? = some p := ⟨_, List.getElem?_eq_getElem h2⟩
        obtain ⟨b1, o1, cap1, e1, q1⟩ := byt_get (HX.out.kept hkp) ha
        cases e1
        obtain ⟨b2, o2, cap2, e2, q2⟩ := byt_get (HY.out.kept hkp) hb
        cases e2
        have ql1 := World.block_lt_of_cell? _ _ q1
        have ql2 := World.block_lt_of_cell? _ _ q2
        have HST : Hid (alikeN (x.drop k) (y.drop k) = if a = b then alikeN (x.drop (k + 1)) (y.drop (k + 1)) + 1 else 0) := alike_step ha hb
        have z0 : (0 : Int) ≤ (k : Int) := by omega
        have z1 : (k : Int) < (x.length : Int) := by omega
        have z2 : (k : Int) < (y.length : Int) := by omega
        have d1 : decide (k < x.length) = true := decide_eq_true h1
        have d2 : decide (k < y.length) = true := decide_eq_true h2
        clear ha hb hkp
        by_cases hab : a = b
        · have HS2 : Hid (alikeN (x.drop k) (y.drop k) = alikeN (x.drop (k + 1)) (y.drop (k + 1)) + 1) := by show _ = _; rw [HST.out, if_pos hab]
          have dab : ((a.toNat : Int) == (b.toNat : Int)) = true := by simp [hab]
          have dab2 : (a.toNat == b.toNat) = true := by simp [hab]
          clear hab HST
          repeat (first | go_values | go_skip | go_guarded | go_step | go_upon)
          refine wp_region_kept (by kernel_rfl) (by kernel_rfl) ?_
          have hne := kw_some wr
          have hcc := KW.cell_eq wr
          have hcf := fun (x : KW wr) (b o : Nat) (hb : b < wr.heap.size) => x.k.frozen_eq b o hb
          repeat (first | (go_big_quiet_step (first | fail)) | (go_big_quiet_want; go_big_quiet_op; refine ⟨_, fun _ => (by with_reducible rfl), ?_⟩; go_big_quiet_on))
          refine wpQuiet_nil ?_
          rintro w5 ⟨⟨w8, k5⟩, h9⟩
          change w5 = w8 at h9
          subst h9
          clear hcc hne hcf
          repeat (first | go_values | go_skip | go_guarded | go_step | go_upon)
          exact ⟨⟨k + 1, h1, h2, by go_num, by show _ = _; have := HB.out; have := HS2.out; omega, HKP.out.trans k5⟩, by simp [intOf]; omega⟩
        · have HS2 : Hid (alikeN (x.drop k) (y.drop k) = 0) := by show _ = _; rw [HST.out, if_neg hab]
          have hne : a.toNat ≠ b.toNat := fun e => hab (UInt8.toNat_inj.1 e)
          have dab : ((a.toNat : Int) == (b.toNat : Int)) = false := by rw [beq_eq_false_iff_ne]; omega
          have dab2 : (a.toNat == b.toNat) = false := by rw [beq_eq_false_iff_ne]; exact hne
          have hR : R = k := by rw [← HB.out, HS2.out]; rfl
          subst hR
          clear hab HST hne HS2 HB
          repeat (first | go_values | go_skip | go_guarded | go_step | go_upon)
          refine wp_region_kept (by kernel_rfl) (by kernel_rfl) ?_
          have hne := kw_some wr
          have hcc := KW.cell_eq wr
          have hcf := fun (x : KW wr) (b o : Nat) (hb : b < wr.heap.size) => x.k.frozen_eq b o hb
          repeat (first | (go_big_quiet_step (first | fail)) | (go_big_quiet_want; go_big_quiet_op; refine ⟨_, fun _ => (by with_reducible rfl), ?_⟩; go_big_quiet_on))
          refine wpQuiet_nil ?_
          rintro w5 ⟨⟨w8, k5⟩, h9⟩
          change w5 = w8 at h9
          subst h9
          clear hcc hne hcf
          repeat (first | go_values | go_skip | go_guarded | go_step | go_upon)
          go_ret
          exact ⟨rfl, HKP.out.trans k5⟩
      · have hR : R = k := by rw [← HB.out, alike_out (by omega)]; rfl
        have d1 : decide (k < x.length) = true := decide_eq_true h1
        have d2 : decide (k < y.length) = false := decide_eq_false h2
        subst hR
        clear HB hkp
        repeat (first | go_values | go_skip | go_guarded | go_step | go_upon)
        refine wp_region_kept (by kernel_rfl) (by kernel_rfl) ?_
        have hne := kw_some wr
        have hcc := KW.cell_eq wr
        have hcf := fun (x : KW wr) (b o : Nat) (hb : b < wr.heap.size) => x.k.frozen_eq b o hb
        repeat (first | (go_big_quiet_step (first | fail)) | (go_big_quiet_want; go_big_quiet_op; refine ⟨_, fun _ => (by with_reducible rfl), ?_⟩; go_big_quiet_on))
        refine wpQuiet_nil ?_
        rintro w5 ⟨⟨w8, k5⟩, h9⟩
        change w5 = w8 at h9
        subst h9
        clear hcc hne hcf
        repeat (first | go_values | go_skip | go_guarded | go_step | go_upon)
        go_ret
        exact ⟨rfl, HKP.out.trans k5⟩
    · have hR : R = k := by rw [← HB.out, alike_out (by omega)]; rfl
      have d1 : decide (k < x.length) = false := decide_eq_false h1
      subst hR
      clear HB hkp
      repeat (first | go_values | go_skip | go_guarded | go_step | go_upon)
      refine wp_region_kept (by kernel_rfl) (by kernel_rfl) ?_
      have hne := kw_some wr
      have hcc := KW.cell_eq wr
      have hcf := fun (x : KW wr) (b o : Nat) (hb : b < wr.heap.size) => x.k.frozen_eq b o hb
      repeat (first | (go_big_quiet_step (first | fail)) | (go_big_quiet_want; go_big_quiet_op; refine ⟨_, fun _ => (by with_reducible rfl), ?_⟩; go_big_quiet_on))
      refine wpQuiet_nil ?_
      rintro w5 ⟨⟨w8, k5⟩, h9⟩
      change w5 = w8 at h9
      subst h9
      clear hcc hne hcf
      repeat (first | go_values | go_skip | go_guarded | go_step | go_upon)
      go_ret
      exact ⟨rfl, HKP.out.trans k5⟩

end Go.Proofs.Ytipgffikmnebnaa
