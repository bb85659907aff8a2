/-
  Whether two chords are alike.
-/
import Derived.Test.YthkfpbknfjapaaaBindP17
import Derived.Test.YthkfpbknfjapaaaQuiet
namespace Go.Proofs.Ythkfpbknfjapaaa
open Go.ChangeShapes Go.WideShapes Go.ChangeAt Go.RowKit

set_option maxRecDepth 100000
set_option linter.unusedVariables false

set_option maxHeartbeats 4000000 in
theorem ssame (a b : List Int) (v v' : Value) (w : World) (hv : NumAt w v a) (hv' : NumAt w v' b) (hn : a.length ≤ 1048576) (hm : b.length ≤ 1048576) :
    Calls Try.prog 57 #[v, v'] w fun e w' => e = .returned (.bool (decide (a = b))) ∧ Kept w w' := by
  obtain ⟨ao, cap, hsl⟩ := row_nil hv
  subst hsl
  obtain ⟨ao', cap', hsl⟩ := row_nil hv'
  subst hsl
  by_cases hlen : a.length = b.length
  · have z0 : ((a.length : Int) != (b.length : Int)) = false := by simp; omega
    have HL : Hid (a.length = b.length) := hlen
    clear hlen
    go_enter Try.func57, Try.ntmps57
    repeat (first | go_values | go_skip | go_guarded | go_step | go_upon)
    clear z0
    go_loopw [13] (fun i wr => ∃ (k : Nat), k ≤ a.length ∧ i = .int .i64 k ∧ Hid (∀ j, j < k → a[j]? = b[j]?) ∧ Kept w wr) (fun i _ => a.length - (intOf i).toNat)
    case atStart => exact ⟨0, by omega, rfl, fun j hj => by omega, But.refl _ _ _⟩
    case round =>
      obtain ⟨k, hk, rfl, HB, hkp⟩ := hrel
      by_cases hlt : k < a.length
      · obtain ⟨p, hp⟩ : ∃ p : Int, a[k]? = some p := ⟨_, List.getElem?_eq_getElem hlt⟩
        obtain ⟨q, hq⟩ : ∃ p : Int, b[k]? = some p := ⟨_, List.getElem?_eq_getElem (by have := HL.out; omega)⟩
        obtain ⟨g, o, cap1, ee, c0⟩ := num_get (hv.kept hkp) hp
        cases ee
        obtain ⟨g', o', cap1, ee, c1⟩ := num_get (hv'.kept hkp) hq
        cases ee
        have y1 : (0 : Int) ≤ (k : Int) := by omega
        have y2 : (k : Int) < (a.length : Int) := by omega
        have y3 : (k : Int) < (b.length : Int) := by have := HL.out; omega
        have HK : Hid (Kept w wr) := hkp
        have HP : Hid (a[k]? = some p ∧ b[k]? = some q) := ⟨hp, hq⟩
        have hgw : g < wr.heap.size := World.block_lt_of_cell? _ _ c0
        have hgw' : g' < wr.heap.size := World.block_lt_of_cell? _ _ c1
        clear hkp hp hq hv hv'
        by_cases hpq : p = q
        · have dq : (p != q) = false := by simp [hpq]
          have HE : Hid (p = q) := hpq
          clear hpq
          repeat (first | go_values | go_skip | go_guarded | go_step | go_upon)
          refine wp_region_kept (by kernel_rfl) (by kernel_rfl) ?_
          have hcc := @KW.cell_eq
          repeat (go_big_quiet_step (first | fail))
          refine wpQuiet_nil ?_
          rintro w5 ⟨⟨w8, k5⟩, h9⟩
          change w5 = w8 at h9
          subst h9
          clear hcc
          repeat (first | go_values | go_skip | go_guarded | go_step | go_upon)
          refine ⟨⟨k + 1, hlt, by go_num, all_more HB.out (by rw [HP.out.1, HP.out.2, HE.out]), HK.out.trans k5⟩, by simp [intOf]; omega⟩
        · have dq : (p != q) = true := by simp [hpq]
          have HE : Hid (¬ p = q) := hpq
          clear hpq
          repeat (first | go_values | go_skip | go_guarded | go_step | go_upon)
          refine wp_region_kept (by kernel_rfl) (by kernel_rfl) ?_
          have hcc := @KW.cell_eq
          repeat (go_big_quiet_step (first | fail))
          refine wpQuiet_nil ?_
          rintro w5 ⟨⟨w8, k5⟩, h9⟩
          change w5 = w8 at h9
          subst h9
          clear hcc
          repeat (first | go_values | go_skip | go_guarded | go_step | go_upon)
          go_ret
          refine ⟨ret_boolG (decide_eq_false fun h => HE.out ?_).symm, HK.out.trans k5⟩
          have h1 := HP.out.1
          rw [h, HP.out.2] at h1
          cases h1
          rfl
      · have hke : k = a.length := by omega
        subst hke
        have HK : Hid (Kept w wr) := hkp
        clear hkp
        go_wp2
        go_ret
        refine ⟨ret_boolG (decide_eq_true ?_).symm, HK.out⟩
        refine List.ext_getElem? fun j => ?_
        by_cases hj : j < a.length
        · exact HB.out j hj
        · rw [List.getElem?_eq_none (by omega), List.getElem?_eq_none (by have := HL.out; omega)]
  · have z0 : ((a.length : Int) != (b.length : Int)) = true := by simp; omega
    go_enter Try.func57, Try.ntmps57
    repeat (first | go_values | go_skip | go_guarded | go_step | go_upon)
    go_ret
    exact ⟨ret_boolG (decide_eq_false fun h => hlen (by rw [h])).symm, But.refl _ _ _⟩

set_option maxHeartbeats 4000000 in
theorem isame (a b : List Int) (v v' : Value) (w : World) (hv : NumAt w v a) (hv' : NumAt w v' b) (hn : a.length ≤ 1048576) (hm : b.length ≤ 1048576) :
    Calls Try.prog 64 #[v, v'] w fun e w' => e = .returned (.bool (decide (a = b))) ∧ Kept w w' := by
  obtain ⟨ao, cap, hsl⟩ := row_nil hv
  subst hsl
  obtain ⟨ao', cap', hsl⟩ := row_nil hv'
  subst hsl
  by_cases hlen : a.length = b.length
  · have z0 : ((a.length : Int) != (b.length : Int)) = false := by simp; omega
    have HL : Hid (a.length = b.length) := hlen
    clear hlen
    go_enter Try.func64, Try.ntmps64
    repeat (first | go_values | go_skip | go_guarded | go_step | go_upon)
    clear z0
    go_loopw [13] (fun i wr => ∃ (k : Nat), k ≤ a.length ∧ i = .int .i64 k ∧ Hid (∀ j, j < k → a[j]? = b[j]?) ∧ Kept w wr) (fun i _ => a.length - (intOf i).toNat)
    case atStart => exact ⟨0, by omega, rfl, fun j hj => by omega, But.refl _ _ _⟩
    case round =>
      obtain ⟨k, hk, rfl, HB, hkp⟩ := hrel
      by_cases hlt : k < a.length
      · obtain ⟨p, hp⟩ : ∃ p : Int, a[k]? = some p := ⟨_, List.getElem?_eq_getElem hlt⟩
        obtain ⟨q, hq⟩ : ∃ p : Int, b[k]? = some p := ⟨_, List.getElem?_eq_getElem (by have := HL.out; omega)⟩
        obtain ⟨g, o, cap1, ee, c0⟩ := num_get (hv.kept hkp) hp
        cases ee
        obtain ⟨g', o', cap1, ee, c1⟩ := num_get (hv'.kept hkp) hq
        cases ee
        have y1 : (0 : Int) ≤ (k : Int) := by omega
        have y2 : (k : Int) < (a.length : Int) := by omega
        have y3 : (k : Int) < (b.length : Int) := by have := HL.out; omega
        have HK : Hid (Kept w wr) := hkp
        have HP : Hid (a[k]? = some p ∧ b[k]? = some q) := ⟨hp, hq⟩
        have hgw : g < wr.heap.size := World.block_lt_of_cell? _ _ c0
        have hgw' : g' < wr.heap.size := World.block_lt_of_cell? _ _ c1
        clear hkp hp hq hv hv'
        by_cases hpq : p = q
        · have dq : (p != q) = false := by simp [hpq]
          have HE : Hid (p = q) := hpq
          clear hpq
          repeat (first | go_values | go_skip | go_guarded | go_step | go_upon)
          refine wp_region_kept (by kernel_rfl) (by kernel_rfl) ?_
          have hcc := @KW.cell_eq
          repeat (go_big_quiet_step (first | fail))
          refine wpQuiet_nil ?_
          rintro w5 ⟨⟨w8, k5⟩, h9⟩
          change w5 = w8 at h9
          subst h9
          clear hcc
          repeat (first | go_values | go_skip | go_guarded | go_step | go_upon)
          refine ⟨⟨k + 1, hlt, by go_num, all_more HB.out (by rw [HP.out.1, HP.out.2, HE.out]), HK.out.trans k5⟩, by simp [intOf]; omega⟩
        · have dq : (p != q) = true := by simp [hpq]
          have HE : Hid (¬ p = q) := hpq
          clear hpq
          repeat (first | go_values | go_skip | go_guarded | go_step | go_upon)
          refine wp_region_kept (by kernel_rfl) (by kernel_rfl) ?_
          have hcc := @KW.cell_eq
          repeat (go_big_quiet_step (first | fail))
          refine wpQuiet_nil ?_
          rintro w5 ⟨⟨w8, k5⟩, h9⟩
          change w5 = w8 at h9
          subst h9
          clear hcc
          repeat (first | go_values | go_skip | go_guarded | go_step | go_upon)
          go_ret
          refine ⟨ret_boolG (decide_eq_false fun h => HE.out ?_).symm, HK.out.trans k5⟩
          have h1 := HP.out.1
          rw [h, HP.out.2] at h1
          cases h1
          rfl
      · have hke : k = a.length := by omega
        subst hke
        have HK : Hid (Kept w wr) := hkp
        clear hkp
        go_wp2
        go_ret
        refine ⟨ret_boolG (decide_eq_true ?_).symm, HK.out⟩
        refine List.ext_getElem? fun j => ?_
        by_cases hj : j < a.length
        · exact HB.out j hj
        · rw [List.getElem?_eq_none (by omega), List.getElem?_eq_none (by have := HL.out; omega)]
  · have z0 : ((a.length : Int) != (b.length : Int)) = true := by simp; omega
    go_enter Try.func64, Try.ntmps64
    repeat (first | go_values | go_skip | go_guarded | go_step | go_upon)
    go_ret
    exact ⟨ret_boolG (decide_eq_false fun h => hlen (by rw [h])).symm, But.refl _ _ _⟩

end Go.Proofs.Ythkfpbknfjapaaa
