/-
  Lists of presses weighed, copied, held against one another.
-/
import Derived.Test.YthkfpbknfjapaaaPress
import Derived.Deep.RegionHeld3
namespace Go.Proofs.Ythkfpbknfjapaaa
open Go.ChangeShapes Go.WideShapes Go.ChangeAt Go.RowKit

theorem szPressS (ps : List PressD) (v : Value) (left : Int) (w : World) (hv : PressAt w v ps) (hl : 0 ≤ left) (hm : left ≤ 1048576) (hn : ps.length ≤ 9223372036854775807) :
    Calls Try.prog 25 #[v, .int .i64 left] w fun e w' => e = .returned (.int .i64 (leftOf left ps.length)) ∧ Kept w w' := by
  obtain ⟨ao, cap, hsl⟩ := row_nil hv
  subst hsl
  by_cases hc : left < (ps.length : Int)
  · have hc2 : decide (left - (ps.length : Int) < 0) = true := by simp; omega
    go_enter Try.func25, Try.ntmps25
    go_wp2
    go_ret
    exact ⟨ret_int (leftOf_no (by omega)).symm, But.refl _ _ _⟩
  · have hc2 : decide (left - (ps.length : Int) < 0) = false := by simp; omega
    go_enter Try.func25, Try.ntmps25
    go_wp2
    go_ret
    exact ⟨ret_int (by rw [leftOf_yes (by omega)]), But.refl _ _ _⟩

theorem toPress (f0 : Int) (f1 : Int) (f2 : Bool) (w : World) :
    Calls Try.prog 68 #[.agg #[.int .i64 f0, .int .i64 f1, .bool f2]] w fun e w' => e = .returned (.agg #[.int .i64 f0, .int .i64 f1, .bool f2]) ∧ Kept w w' := by
  go_enter Try.func68, Try.ntmps68
  go_wp2
  refine bodyPost_ret (v := .agg #[.int .i64 f0, .int .i64 f1, .bool f2]) (by simp [results, Try.results68, go_sem]) rfl ?_
  exact ⟨rfl, (((But.refl _ _ _).alloc _).alloc _).alloc _⟩

theorem info82 : (Try.prog.info? 82).map (fun i => (i.zero, i.size, i.bytes)) = some (some (.agg #[.int .i64 0, .int .i64 0, .bool false]), 3, 24) := by kernel_rfl

set_option maxHeartbeats 2000000 in
theorem toPressS (ps : List PressD) (v : Value) (w : World) (hv : PressAt w v ps) (hl : ps.length ≤ 1048576) :
    Calls Try.prog 26 #[v] w fun e w' => ∃ v', e = .returned v' ∧ PressO w' w.heap.size w'.heap.size v' ps ∧ Kept w w' := by
  obtain ⟨ao, cap, hsl⟩ := row_nil hv
  subst hsl
  obtain ⟨i0, hi, hz0, hz1, hz2⟩ := info_parts info82
  have hmk : (Instr.makeSlice 24 (.int .i64 (ps.length : Int)) (.int .i64 (ps.length : Int))).run Try.prog w = .ok (.slice (some ⟨w.heap.size, 0, none⟩) ps.length ps.length) (w.alloc (.cells (madeCells #[.int .i64 0, .int .i64 0, .bool false] (ps.length * 3)) 82)) := by
    have := run_make (P := Try.prog) w 24 82 i0 _ Try.underlying24 hi hz0 .i64 .i64 (ps.length : Int) (ps.length : Int) (by omega) (by omega) (by rw [hz2]; omega) (by omega)
    rw [this, hz1]
    simp [Value.cells]
  have hm := row_made w w.heap.size 82 #[.int .i64 0, .int .i64 0, .bool false] 3 (by omega) pressC press0 pressC_len rfl ps.length (Nat.le_refl _) (by unfold maxLen; omega)
  clear hi hz0 hz1 hz2
  go_enter Try.func26, Try.ntmps26
  go_wp2
  clear hmk
  go_loopw [4] (fun i wr => ∃ k : Nat, k ≤ ps.length ∧ i = .int .i64 k ∧ PressO wr w.heap.size (w.heap.size + 1) (.slice (some ⟨w.heap.size, 0, none⟩) ps.length ps.length) (ps.take k ++ List.replicate (ps.length - k) press0) ∧ Kept w wr) (fun i _ => ps.length - (intOf i).toNat)
  case atStart => exact ⟨0, by omega, rfl, by simpa [PressO] using hm, (But.refl _ _ _).alloc _⟩
  case round =>
    obtain ⟨k, hk, rfl, ho, hkp⟩ := hrel
    by_cases hlt : k < ps.length
    · obtain ⟨p, hp⟩ : ∃ p, ps[k]? = some p := ⟨_, List.getElem?_eq_getElem hlt⟩
      obtain ⟨b, o, cap', e, c0, c1, c2⟩ := press_get (hv.kept hkp) hp
      cases e
      clear hm
      go_wp2_with (go_at_call 68; refine (toPress _ _ _ _).mono ?_; rintro e w' ⟨rfl, hk2⟩
                   have ho2 := PressO.kept ho hk2
                   obtain ⟨d0, d1, d2, dz⟩ := ho2.cells (fill_get ps press0 hlt)
                   have dz0 := dz (k * 3)
                   have dz1 := dz (k * 3 + 1)
                   have dz2 := dz (k * 3 + 2)
                   obtain ⟨e1, e2, d5⟩ := ho2.store (fill_len ps press0 (by omega)).symm (fill_get ps press0 hlt) p
                   have HS : Hid _ := d5
                   clear d5 dz ho ho2)
      refine ⟨⟨k + 1, hlt, by go_num, by rw [← fill_set ps press0 hp]; exact HS.out, ?_⟩, by simp [intOf]; omega⟩
      exact ((((hkp.trans hk2).setNew (by simp) _).setNew (by simp) _).setNew (by simp) _)
    · have hke : k = ps.length := by omega
      subst hke
      clear hm
      have hsz := hkp.size
      go_wp2
      go_ret
      have hs := own_lt ho.1 (g := w.heap.size) rfl
      refine ⟨_, rfl, ?_, hkp⟩
      simp only [Nat.sub_self, List.replicate_zero, List.append_nil, List.take_length] at ho
      exact RowO.low ho

theorem eqPress (f0 : Int) (f1 : Int) (f2 : Bool) (w : World) :
    Calls Try.prog 70 #[.agg #[.int .i64 f0, .int .i64 f1, .bool f2], .agg #[.int .i64 f0, .int .i64 f1, .bool f2]] w fun e w' => e = .returned (.bool true) ∧ Kept w w' := by
  go_enter Try.func70, Try.ntmps70
  go_wp2
  go_ret
  exact ⟨rfl, ((But.refl _ _ _).alloc _).alloc _⟩

set_option maxHeartbeats 2000000 in
theorem eqPressS (ps : List PressD) (v v' : Value) (w : World) (hv : PressAt w v ps) (hv' : PressAt w v' ps) (hn : ps.length ≤ 9000000000000000000) :
    Calls Try.prog 28 #[v, v'] w fun e w' => e = .returned (.bool true) ∧ Kept w w' := by
  obtain ⟨ao, cap, hsl⟩ := row_nil hv
  subst hsl
  obtain ⟨ao', cap', hsl⟩ := row_nil hv'
  subst hsl
  go_enter Try.func28, Try.ntmps28
  go_wp2
  go_loopw [5] (fun i wr => ∃ (k : Nat), k ≤ ps.length ∧ i = .int .i64 k ∧ Kept w wr) (fun i _ => ps.length - (intOf i).toNat)
  case atStart => exact ⟨0, by omega, rfl, But.refl _ _ _⟩
  case round =>
    obtain ⟨k, hk, rfl, hkp⟩ := hrel
    by_cases hlt : k < ps.length
    · obtain ⟨p, hp⟩ : ∃ p, ps[k]? = some p := ⟨_, List.getElem?_eq_getElem hlt⟩
      obtain ⟨b, o, cap1, e, c0, c1, c2⟩ := press_get (hv.kept hkp) hp
      cases e
      obtain ⟨b', o', cap1', e, c0', c1', c2'⟩ := press_get (hv'.kept hkp) hp
      cases e
      have z1 : (0 : Int) ≤ (k : Int) := by omega
      have z2 : (k : Int) < (ps.length : Int) := by omega
      have HK : Hid _ := hkp
      clear hkp
      go_wp2_with fail
      go_region_held3 (fun w' => w'.cell? ⟨b, o + k * 3, none⟩ = some (.int .i64 p.1) ∧ w'.cell? ⟨b, o + k * 3 + 1, none⟩ = some (.int .i64 p.2.1) ∧ w'.cell? ⟨b, o + k * 3 + 2, none⟩ = some (.bool p.2.2) ∧ w'.cell? ⟨b', o' + k * 3, none⟩ = some (.int .i64 p.1) ∧ w'.cell? ⟨b', o' + k * 3 + 1, none⟩ = some (.int .i64 p.2.1) ∧ w'.cell? ⟨b', o' + k * 3 + 2, none⟩ = some (.bool p.2.2)) (simp [go_sem, *])
        (first | (go_at_call 70; refine (eqPress _ _ _ _).mono ?_; rintro e w' ⟨rfl, hk2⟩; have c0 := Kept.cell hk2 c0; have c1 := Kept.cell hk2 c1; have c2 := Kept.cell hk2 c2; have c0' := Kept.cell hk2 c0'; have c1' := Kept.cell hk2 c1'; have c2' := Kept.cell hk2 c2'))
      go_wp2
      exact ⟨⟨k + 1, hlt, by go_num, HK.out.trans ((But.refl _ _ wr).drew.trans hk2)⟩, by simp [intOf]; omega⟩
    · have hke : k = ps.length := by omega
      subst hke
      go_wp2
      go_ret
      exact ⟨rfl, hkp⟩

end Go.Proofs.Ythkfpbknfjapaaa
