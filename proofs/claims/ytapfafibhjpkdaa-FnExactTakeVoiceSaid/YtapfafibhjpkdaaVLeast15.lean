/-
  The first voice of the least rank, in the program.
-/
import Derived.Test.YtapfafibhjpkdaaVPut15
import Derived.Test.YtapfafibhjpkdaaQuiet
namespace Go.Proofs.Ytapfafibhjpkdaa
open Go.ChangeShapes Go.WideShapes Go.ChangeAt Go.RowKit

set_option maxRecDepth 100000
set_option linter.unusedVariables false

set_option maxHeartbeats 4000000 in
theorem ileast (ds : List VoiceD) (v : Value) (w : World) (hv : VoicesAt w v ds) (hn : 0 < ds.length) (hln : ds.length ≤ 1048576) :
    Calls Try.prog 60 #[v] w fun e w' => e = .returned (.int .i64 ((lst ds ds.length : Nat) : Int)) ∧ Kept w w' := by
  obtain ⟨ao, cap, hsl⟩ := hv.form
  subst hsl
  go_enter Try.func60, Try.ntmps60
  repeat (first | go_values | go_skip | go_guarded | go_step | go_upon)
  go_loopw [3, 8] (fun e i wz => ∃ (k : Nat), k ≤ ds.length ∧ i = .int .i64 k ∧ e = .int .i64 ((lst ds k : Nat) : Int) ∧ Kept w wz) (fun e i _ => ds.length - (intOf i).toNat)
  case atStart => exact ⟨0, by omega, rfl, rfl, But.refl _ _ _⟩
  case round =>
    rename World => wz
    obtain ⟨k, hk, rfl, rfl, hkz⟩ := hrel
    by_cases hlt : k < ds.length
    · obtain ⟨d, hd⟩ : ∃ p, ds[k]? = some p := ⟨_, List.getElem?_eq_getElem hlt⟩
      have hmk : lst ds k < ds.length := by
        rcases Nat.eq_zero_or_pos k with h0 | h0
        · rw [h0]; show 0 < ds.length; omega
        · have := lst_lt ds k h0; omega
      obtain ⟨m, hm⟩ : ∃ m, lst ds k = m := ⟨_, rfl⟩
      rw [hm] at hmk ⊢
      obtain ⟨dm, hdm⟩ : ∃ p, ds[m]? = some p := ⟨_, List.getElem?_eq_getElem hmk⟩
      obtain ⟨b, o, cap', s, ee, c0, c1, c2, c3, c4, c5, hka⟩ := (hv.kept hkz).get hd
      obtain ⟨b', o', cap'', s', ee', e0, e1, e2, e3, e4, e5, _⟩ := (hv.kept hkz).get hdm
      cases ee
      cases ee'
      have hr1 := rk_at hd
      have hr2 := rk_at hdm
      have HR : Hid (lst ds (k + 1) = if rkN ds k < rkN ds m then k else m) := by show _ = _; rw [lst, hm]
      rw [hr1, hr2] at HR
      obtain ⟨l, a, lp, lf, rt, rk⟩ := d
      obtain ⟨l', a', lp', lf', rt', rk'⟩ := dm
      dsimp only at c0 c1 c2 c3 c4 c5 e5 HR
      obtain ⟨a3, p3, hsl⟩ := row_nil hka
      subst hsl
      have HKZ : Hid (Kept w wz) := hkz
      have hgw : b < wz.heap.size := World.block_lt_of_cell? _ _ c0
      have z0 : (0 : Int) ≤ (m : Int) := by omega
      have z1 : (m : Int) < (ds.length : Int) := by omega
      clear hka hkz hd hdm hr1 hr2 hm e0 e1 e2 e3 e4
      by_cases hq : rk < rk'
      · have hdq : decide (rk < rk') = true := decide_eq_true hq
        repeat (first | go_values | go_skip | go_guarded | go_step | go_upon)
        refine wp_region_kept (by kernel_rfl) (by kernel_rfl) ?_
        have hcc := @KW.cell_eq
        repeat (go_big_quiet_step (first | fail))
        refine wpQuiet_nil ?_
        rintro w5 ⟨⟨w8, k5⟩, h9⟩
        change w5 = w8 at h9
        subst h9
        clear hcc
        repeat (first | go_values | go_skip | go_guarded | go_step | go_upon)
        exact ⟨⟨k + 1, hlt, by go_num, by rw [HR.out, if_pos hq], (HKZ.out.alloc _).trans k5⟩, by simp [intOf]; omega⟩
      · have hdq : decide (rk < rk') = false := decide_eq_false hq
        repeat (first | go_values | go_skip | go_guarded | go_step | go_upon)
        refine wp_region_kept (by kernel_rfl) (by kernel_rfl) ?_
        have hcc := @KW.cell_eq
        repeat (go_big_quiet_step (first | fail))
        refine wpQuiet_nil ?_
        rintro w5 ⟨⟨w8, k5⟩, h9⟩
        change w5 = w8 at h9
        subst h9
        clear hcc
        repeat (first | go_values | go_skip | go_guarded | go_step | go_upon)
        exact ⟨⟨k + 1, hlt, by go_num, by rw [HR.out, if_neg hq], (HKZ.out.alloc _).trans k5⟩, by simp [intOf]; omega⟩
    · have hke : k = ds.length := by omega
      subst hke
      repeat (first | go_values | go_skip | go_guarded | go_step | go_upon)
      go_ret
      exact ⟨rfl, hkz⟩

end Go.Proofs.Ytapfafibhjpkdaa
