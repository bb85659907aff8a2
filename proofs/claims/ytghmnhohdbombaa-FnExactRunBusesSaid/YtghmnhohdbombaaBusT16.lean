/-
  Buses copied.
-/
import Derived.Test.YtghmnhohdbombaaBus16
namespace Go.Proofs.Ytghmnhohdbombaa
open Go.ChangeShapes Go.WideShapes Go.ChangeAt Go.RowKit Ieee

set_option maxRecDepth 100000
theorem toFilterE (f0 f1 f2 f3 f4 : Nat) (w : World) :
    Calls Try.prog 14 #[.agg #[.float .f64 f0, .float .f64 f1, .float .f64 f2, .float .f64 f3, .float .f64 f4]] w fun e w' => e = .returned (.agg #[.float .f64 f0, .float .f64 f1, .float .f64 f2, .float .f64 f3, .float .f64 f4]) ∧ w' = ((w.alloc (.cells #[.float .f64 f0, .float .f64 f1, .float .f64 f2, .float .f64 f3, .float .f64 f4] 34)).alloc (.cells #[.float .f64 f0, .float .f64 f1, .float .f64 f2, .float .f64 f3, .float .f64 f4] 25)).alloc (.cells #[.float .f64 f0, .float .f64 f1, .float .f64 f2, .float .f64 f3, .float .f64 f4] 25) := by
  go_enter Try.func14, Try.ntmps14
  go_wp2
  refine bodyPost_ret (v := .agg #[.float .f64 f0, .float .f64 f1, .float .f64 f2, .float .f64 f3, .float .f64 f4]) (by simp [results, Try.results14, go_sem]) rfl ?_
  exact ⟨rfl, rfl⟩
set_option maxHeartbeats 2000000 in
theorem toBus (f0 : Nat) (f1 : Nat) (f2 : Nat) (f3 : Nat) (f4 : Nat) (f5 : Nat) (f6 : Int) (w : World) :
    Calls Try.prog 62 #[.agg #[.float .f64 f0, .float .f64 f1, .float .f64 f2, .float .f64 f3, .float .f64 f4, .float .f64 f5, .int .i64 f6]] w fun e w' => e = .returned (.agg #[.float .f64 f0, .float .f64 f1, .float .f64 f2, .float .f64 f3, .float .f64 f4, .float .f64 f5, .int .i64 f6]) ∧ Kept w w' := by
  go_enter Try.func62, Try.ntmps62
  go_wp2_with (go_at_call 14; refine (toFilterE _ _ _ _ _ _).mono ?_; rintro e u1 ⟨rfl, rfl⟩)
  refine bodyPost_ret (v := .agg #[.float .f64 f0, .float .f64 f1, .float .f64 f2, .float .f64 f3, .float .f64 f4, .float .f64 f5, .int .i64 f6]) (by simp [results, Try.results62, go_sem]) rfl ?_
  exact ⟨rfl, by (repeat (first | with_reducible exact But.refl _ _ _ | with_reducible apply But.alloc | (with_reducible refine But.setNew ?_ (by simp; try omega) _)))⟩

theorem info94 : (Try.prog.info? 94).map (fun i => (i.zero, i.size, i.bytes)) = some (some (.agg #[.float .f64 0, .float .f64 0, .float .f64 0, .float .f64 0, .float .f64 0, .float .f64 0, .int .i64 0]), 7, 56) := by kernel_rfl

set_option maxHeartbeats 2000000 in
theorem toBusS (ps : List BusD) (v : Value) (w : World) (hv : BusAt w v ps) (hl : ps.length ≤ 1048576) :
    Calls Try.prog 33 #[v] w fun e w' => ∃ v', e = .returned v' ∧ BusO w' w.heap.size w'.heap.size v' ps ∧ Kept w w' := by
  obtain ⟨ao, cap, hsl⟩ := row_nil hv
  subst hsl
  obtain ⟨i0, hi, hz0, hz1, hz2⟩ := info_parts info94
  have hmk : (Instr.makeSlice 63 (.int .i64 (ps.length : Int)) (.int .i64 (ps.length : Int))).run Try.prog w = .ok (.slice (some ⟨w.heap.size, 0, none⟩) ps.length ps.length) (w.alloc (.cells (madeCells #[.float .f64 0, .float .f64 0, .float .f64 0, .float .f64 0, .float .f64 0, .float .f64 0, .int .i64 0] (ps.length * 7)) 94)) := by
    have := run_make (P := Try.prog) w 63 94 i0 _ Try.underlying63 hi hz0 .i64 .i64 (ps.length : Int) (ps.length : Int) (by omega) (by omega) (by rw [hz2]; omega) (by omega)
    rw [this, hz1]
    simp [Value.cells]
  have hm := row_made w w.heap.size 94 #[.float .f64 0, .float .f64 0, .float .f64 0, .float .f64 0, .float .f64 0, .float .f64 0, .int .i64 0] 7 (by omega) busC bus0 busC_len rfl ps.length (Nat.le_refl _) (by unfold maxLen; omega)
  clear hi hz0 hz1 hz2
  go_enter Try.func33, Try.ntmps33
  go_wp2
  clear hmk
  go_loopw [4] (fun i wr => ∃ k : Nat, k ≤ ps.length ∧ i = .int .i64 k ∧ BusO wr w.heap.size (w.heap.size + 1) (.slice (some ⟨w.heap.size, 0, none⟩) ps.length ps.length) (ps.take k ++ List.replicate (ps.length - k) bus0) ∧ Kept w wr) (fun i _ => ps.length - (intOf i).toNat)
  case atStart => exact ⟨0, by omega, rfl, by simpa [BusO] using hm, (But.refl _ _ _).alloc _⟩
  case round =>
    obtain ⟨k, hk, rfl, ho, hkp⟩ := hrel
    by_cases hlt : k < ps.length
    · obtain ⟨p, hp⟩ : ∃ p, ps[k]? = some p := ⟨_, List.getElem?_eq_getElem hlt⟩
      obtain ⟨b, o, cap', e, c0, c1, c2, c3, c4, c5, c6⟩ := bus_get (hv.kept hkp) hp
      cases e
      clear hm
      go_wp2_with (go_at_call 62; refine (toBus _ _ _ _ _ _ _ _).mono ?_; rintro e w' ⟨rfl, hk2⟩
                   have ho2 := BusO.kept ho hk2
                   obtain ⟨d0, d1, d2, d3, d4, d5, d6, dz⟩ := ho2.cells (fill_get ps bus0 hlt)
                   have dz0 := dz (k * 7)
                   have dz1 := dz (k * 7 + 1)
                   have dz2 := dz (k * 7 + 2)
                   have dz3 := dz (k * 7 + 3)
                   have dz4 := dz (k * 7 + 4)
                   have dz5 := dz (k * 7 + 5)
                   have dz6 := dz (k * 7 + 6)
                   obtain ⟨e1, e2, e3, e4, e5, e6, d5⟩ := ho2.store (fill_len ps bus0 (by omega)).symm (fill_get ps bus0 hlt) p
                   have HS : Hid _ := d5
                   clear d5 dz ho ho2)
      refine ⟨⟨k + 1, hlt, by go_num, by rw [← fill_set ps bus0 hp]; exact HS.out, ?_⟩, by simp [intOf]; omega⟩
      exact ((((((((hkp.trans hk2).setNew (by simp) _).setNew (by simp) _).setNew (by simp) _).setNew (by simp) _).setNew (by simp) _).setNew (by simp) _).setNew (by simp) _)
    · have hke : k = ps.length := by omega
      subst hke
      clear hm
      have hsz := hkp.size
      go_wp2
      go_ret
      have hs := own_lt ho.1 (g := w.heap.size) rfl
      refine ⟨_, rfl, ?_, hkp⟩
      simp only [Nat.sub_self, List.replicate_zero, List.append_nil, List.take_length] at ho
      exact RowO.low ho

end Go.Proofs.Ytghmnhohdbombaa
