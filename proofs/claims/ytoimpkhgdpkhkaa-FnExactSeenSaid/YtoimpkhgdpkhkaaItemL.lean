/-
  Lists of items weighed, copied, held against one another.
-/
import Derived.Test.YtoimpkhgdpkhkaaItemT
namespace Go.Proofs.Ytoimpkhgdpkhkaa
open Go.ChangeShapes Go.WideShapes Go.ChangeAt Go.RowKit

theorem szItemS (ps : List ItemD) (v : Value) (left : Int) (w : World) (hv : ItemAt w v ps) (hl : 0 ≤ left) (hm : left ≤ 1048576) (hn : ps.length ≤ 9223372036854775807) :
    Calls Try.prog 12 #[v, .int .i64 left] w fun e w' => e = .returned (.int .i64 (leftOf left ps.length)) ∧ Kept w w' := by
  obtain ⟨ao, cap, hsl⟩ := row_nil hv
  subst hsl
  by_cases hc : left < (ps.length : Int)
  · have hc2 : decide (left - (ps.length : Int) < 0) = true := by simp; omega
    go_enter Try.func12, Try.ntmps12
    go_wp2
    go_ret
    exact ⟨ret_int (leftOf_no (by omega)).symm, But.refl _ _ _⟩
  · have hc2 : decide (left - (ps.length : Int) < 0) = false := by simp; omega
    go_enter Try.func12, Try.ntmps12
    go_wp2
    go_ret
    exact ⟨ret_int (by rw [leftOf_yes (by omega)]), But.refl _ _ _⟩

theorem info29 : (Try.prog.info? 29).map (fun i => (i.zero, i.size, i.bytes)) = some (some (.agg #[.int .i64 0, .int .i64 0, .int .i64 0, .int .i64 0, .bool false, .int .i64 0, .int .i64 0, .int .i64 0, .int .i64 0]), 9, 72) := by kernel_rfl

set_option maxHeartbeats 2000000 in
theorem toItemS (ps : List ItemD) (v : Value) (w : World) (hv : ItemAt w v ps) (hl : ps.length ≤ 1048576) :
    Calls Try.prog 14 #[v] w fun e w' => ∃ v', e = .returned v' ∧ ItemO w' w.heap.size w'.heap.size v' ps ∧ Kept w w' := by
  obtain ⟨ao, cap, hsl⟩ := row_nil hv
  subst hsl
  obtain ⟨i0, hi, hz0, hz1, hz2⟩ := info_parts info29
  have hmk : (Instr.makeSlice 37 (.int .i64 (ps.length : Int)) (.int .i64 (ps.length : Int))).run Try.prog w = .ok (.slice (some ⟨w.heap.size, 0, none⟩) ps.length ps.length) (w.alloc (.cells (madeCells #[.int .i64 0, .int .i64 0, .int .i64 0, .int .i64 0, .bool false, .int .i64 0, .int .i64 0, .int .i64 0, .int .i64 0] (ps.length * 9)) 29)) := by
    have := run_make (P := Try.prog) w 37 29 i0 _ Try.underlying37 hi hz0 .i64 .i64 (ps.length : Int) (ps.length : Int) (by omega) (by omega) (by rw [hz2]; omega) (by omega)
    rw [this, hz1]
    simp [Value.cells]
  have hm := row_made w w.heap.size 29 #[.int .i64 0, .int .i64 0, .int .i64 0, .int .i64 0, .bool false, .int .i64 0, .int .i64 0, .int .i64 0, .int .i64 0] 9 (by omega) itemC item0 itemC_len rfl ps.length (Nat.le_refl _) (by unfold maxLen; omega)
  clear hi hz0 hz1 hz2
  go_enter Try.func14, Try.ntmps14
  go_wp2
  clear hmk
  go_loopw [4] (fun i wr => ∃ k : Nat, k ≤ ps.length ∧ i = .int .i64 k ∧ ItemO wr w.heap.size (w.heap.size + 1) (.slice (some ⟨w.heap.size, 0, none⟩) ps.length ps.length) (ps.take k ++ List.replicate (ps.length - k) item0) ∧ Kept w wr) (fun i _ => ps.length - (intOf i).toNat)
  case atStart => exact ⟨0, by omega, rfl, by simpa [ItemO] using hm, (But.refl _ _ _).alloc _⟩
  case round =>
    obtain ⟨k, hk, rfl, ho, hkp⟩ := hrel
    by_cases hlt : k < ps.length
    · obtain ⟨p, hp⟩ : ∃ p, ps[k]? = some p := ⟨_, List.getElem?_eq_getElem hlt⟩
      obtain ⟨b, o, cap', e, c0, c1, c2, c3, c4, c5, c6, c7, c8⟩ := item_get (hv.kept hkp) hp
      cases e
      clear hm
      go_wp2_with (go_at_call 10; refine (toItem _ _ _ _ _ _ _ _ _ _).mono ?_; rintro e w' ⟨rfl, hk2⟩
                   have ho2 := ItemO.kept ho hk2
                   obtain ⟨d0, d1, d2, d3, d4, d5, d6, d7, d8, dz⟩ := ho2.cells (fill_get ps item0 hlt)
                   have dz0 := dz (k * 9)
                   have dz1 := dz (k * 9 + 1)
                   have dz2 := dz (k * 9 + 2)
                   have dz3 := dz (k * 9 + 3)
                   have dz4 := dz (k * 9 + 4)
                   have dz5 := dz (k * 9 + 5)
                   have dz6 := dz (k * 9 + 6)
                   have dz7 := dz (k * 9 + 7)
                   have dz8 := dz (k * 9 + 8)
                   obtain ⟨e1, e2, e3, e4, e5, e6, e7, e8, d5⟩ := ho2.store (fill_len ps item0 (by omega)).symm (fill_get ps item0 hlt) p
                   have HS : Hid _ := d5
                   clear d5 dz ho ho2)
      refine ⟨⟨k + 1, hlt, by go_num, by rw [← fill_set ps item0 hp]; exact HS.out, ?_⟩, by simp [intOf]; omega⟩
      exact ((((((((((hkp.trans hk2).setNew (by simp) _).setNew (by simp) _).setNew (by simp) _).setNew (by simp) _).setNew (by simp) _).setNew (by simp) _).setNew (by simp) _).setNew (by simp) _).setNew (by simp) _)
    · have hke : k = ps.length := by omega
      subst hke
      clear hm
      have hsz := hkp.size
      go_wp2
      go_ret
      have hs := own_lt ho.1 (g := w.heap.size) rfl
      refine ⟨_, rfl, ?_, hkp⟩
      simp only [Nat.sub_self, List.replicate_zero, List.append_nil, List.take_length] at ho
      exact RowO.low ho

set_option maxHeartbeats 2000000 in
theorem eqItemS (ps : List ItemD) (v v' : Value) (w : World) (hv : ItemAt w v ps) (hv' : ItemAt w v' ps) (hn : ps.length ≤ 9000000000000000000) :
    Calls Try.prog 18 #[v, v'] w fun e w' => e = .returned (.bool true) ∧ Kept w w' := by
  obtain ⟨ao, cap, hsl⟩ := row_nil hv
  subst hsl
  obtain ⟨ao', cap', hsl⟩ := row_nil hv'
  subst hsl
  go_enter Try.func18, Try.ntmps18
  go_wp2
  go_loopw [5] (fun i wr => ∃ (k : Nat), k ≤ ps.length ∧ i = .int .i64 k ∧ Kept w wr) (fun i _ => ps.length - (intOf i).toNat)
  case atStart => exact ⟨0, by omega, rfl, But.refl _ _ _⟩
  case round =>
    obtain ⟨k, hk, rfl, hkp⟩ := hrel
    by_cases hlt : k < ps.length
    · obtain ⟨p, hp⟩ : ∃ p, ps[k]? = some p := ⟨_, List.getElem?_eq_getElem hlt⟩
      obtain ⟨b, o, cap1, e, c0, c1, c2, c3, c4, c5, c6, c7, c8⟩ := item_get (hv.kept hkp) hp
      cases e
      obtain ⟨b', o', cap1', e, c0', c1', c2', c3', c4', c5', c6', c7', c8'⟩ := item_get (hv'.kept hkp) hp
      cases e
      have z1 : (0 : Int) ≤ (k : Int) := by omega
      have z2 : (k : Int) < (ps.length : Int) := by omega
      have HK : Hid _ := hkp
      clear hkp
      go_wp2_with fail
      go_region_held3 (fun w' => w'.cell? ⟨b, o + k * 9, none⟩ = some (.int .i64 p.1) ∧ w'.cell? ⟨b, o + k * 9 + 1, none⟩ = some (.int .i64 p.2.1) ∧ w'.cell? ⟨b, o + k * 9 + 2, none⟩ = some (.int .i64 p.2.2.1) ∧ w'.cell? ⟨b, o + k * 9 + 3, none⟩ = some (.int .i64 p.2.2.2.1) ∧ w'.cell? ⟨b, o + k * 9 + 4, none⟩ = some (.bool p.2.2.2.2.1) ∧ w'.cell? ⟨b, o + k * 9 + 5, none⟩ = some (.int .i64 p.2.2.2.2.2.1) ∧ w'.cell? ⟨b, o + k * 9 + 6, none⟩ = some (.int .i64 p.2.2.2.2.2.2.1) ∧ w'.cell? ⟨b, o + k * 9 + 7, none⟩ = some (.int .i64 p.2.2.2.2.2.2.2.1) ∧ w'.cell? ⟨b, o + k * 9 + 8, none⟩ = some (.int .i64 p.2.2.2.2.2.2.2.2) ∧ w'.cell? ⟨b', o' + k * 9, none⟩ = some (.int .i64 p.1) ∧ w'.cell? ⟨b', o' + k * 9 + 1, none⟩ = some (.int .i64 p.2.1) ∧ w'.cell? ⟨b', o' + k * 9 + 2, none⟩ = some (.int .i64 p.2.2.1) ∧ w'.cell? ⟨b', o' + k * 9 + 3, none⟩ = some (.int .i64 p.2.2.2.1) ∧ w'.cell? ⟨b', o' + k * 9 + 4, none⟩ = some (.bool p.2.2.2.2.1) ∧ w'.cell? ⟨b', o' + k * 9 + 5, none⟩ = some (.int .i64 p.2.2.2.2.2.1) ∧ w'.cell? ⟨b', o' + k * 9 + 6, none⟩ = some (.int .i64 p.2.2.2.2.2.2.1) ∧ w'.cell? ⟨b', o' + k * 9 + 7, none⟩ = some (.int .i64 p.2.2.2.2.2.2.2.1) ∧ w'.cell? ⟨b', o' + k * 9 + 8, none⟩ = some (.int .i64 p.2.2.2.2.2.2.2.2)) (simp [go_sem, *])
        (first | (go_at_call 41; refine (eqItem _ _ _ _ _ _ _ _ _ _).mono ?_; rintro e w' ⟨rfl, hk2⟩; have c0 := Kept.cell hk2 c0; have c1 := Kept.cell hk2 c1; have c2 := Kept.cell hk2 c2; have c3 := Kept.cell hk2 c3; have c4 := Kept.cell hk2 c4; have c5 := Kept.cell hk2 c5; have c6 := Kept.cell hk2 c6; have c7 := Kept.cell hk2 c7; have c8 := Kept.cell hk2 c8; have c0' := Kept.cell hk2 c0'; have c1' := Kept.cell hk2 c1'; have c2' := Kept.cell hk2 c2'; have c3' := Kept.cell hk2 c3'; have c4' := Kept.cell hk2 c4'; have c5' := Kept.cell hk2 c5'; have c6' := Kept.cell hk2 c6'; have c7' := Kept.cell hk2 c7'; have c8' := Kept.cell hk2 c8'))
      go_wp2
      exact ⟨⟨k + 1, hlt, by go_num, HK.out.trans ((But.refl _ _ wr).drew.trans hk2)⟩, by simp [intOf]; omega⟩
    · have hke : k = ps.length := by omega
      subst hke
      go_wp2
      go_ret
      exact ⟨rfl, hkp⟩

end Go.Proofs.Ytoimpkhgdpkhkaa
