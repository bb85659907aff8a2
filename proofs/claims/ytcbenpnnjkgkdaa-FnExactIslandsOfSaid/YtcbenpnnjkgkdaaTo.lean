/-
  What the functions answer that weigh and copy pairs.
-/
import Derived.Test.YtcbenpnnjkgkdaaRows
import Derived.Test.YtcbenpnnjkgkdaaPair
namespace Go.Proofs.Ytcbenpnnjkgkdaa
open Go.ChangeShapes Go.WideShapes Go.ChangeAt Go.RowKit

theorem szPairS (ps : List PairD) (v : Value) (left : Int) (w : World) (hv : PairAt w v ps) (hl : 0 ≤ left) (hm : left ≤ 1048576) (hn : ps.length ≤ 9223372036854775807) :
    Calls Try.prog 4 #[v, .int .i64 left] w fun e w' => e = .returned (.int .i64 (leftOf left ps.length)) ∧ Kept w w' := by
  obtain ⟨ao, cap, hsl⟩ := row_nil hv
  subst hsl
  by_cases hc : left < (ps.length : Int)
  · have hc2 : decide (left - (ps.length : Int) < 0) = true := by simp; omega
    go_enter Try.func4, Try.ntmps4
    go_wp2
    go_ret
    exact ⟨ret_int (leftOf_no (by omega)).symm, But.refl _ _ _⟩
  · have hc2 : decide (left - (ps.length : Int) < 0) = false := by simp; omega
    go_enter Try.func4, Try.ntmps4
    go_wp2
    go_ret
    exact ⟨ret_int (by rw [leftOf_yes (by omega)]), But.refl _ _ _⟩

theorem toPair (f0 : Int) (f1 : Int) (w : World) :
    Calls Try.prog 14 #[.agg #[.int .i64 f0, .int .i64 f1]] w fun e w' => e = .returned (.agg #[.int .i64 f0, .int .i64 f1]) ∧ Kept w w' := by
  go_enter Try.func14, Try.ntmps14
  go_wp2
  refine bodyPost_ret (v := .agg #[.int .i64 f0, .int .i64 f1]) (by simp [results, Try.results14, go_sem]) rfl ?_
  exact ⟨rfl, (((But.refl _ _ _).alloc _).alloc _).alloc _⟩

theorem info37 : (Try.prog.info? 37).map (fun i => (i.zero, i.size, i.bytes)) = some (some (.agg #[.int .i64 0, .int .i64 0]), 2, 16) := by kernel_rfl

set_option maxHeartbeats 2000000 in
theorem toPairS (ps : List PairD) (v : Value) (w : World) (hv : PairAt w v ps) (hl : ps.length ≤ 1048576) :
    Calls Try.prog 6 #[v] w fun e w' => ∃ v', e = .returned v' ∧ PairO w' w.heap.size w'.heap.size v' ps ∧ Kept w w' := by
  obtain ⟨ao, cap, hsl⟩ := row_nil hv
  subst hsl
  obtain ⟨i0, hi, hz0, hz1, hz2⟩ := info_parts info37
  have hmk : (Instr.makeSlice 27 (.int .i64 (ps.length : Int)) (.int .i64 (ps.length : Int))).run Try.prog w = .ok (.slice (some ⟨w.heap.size, 0, none⟩) ps.length ps.length) (w.alloc (.cells (madeCells #[.int .i64 0, .int .i64 0] (ps.length * 2)) 37)) := by
    have := run_make (P := Try.prog) w 27 37 i0 _ Try.underlying27 hi hz0 .i64 .i64 (ps.length : Int) (ps.length : Int) (by omega) (by omega) (by rw [hz2]; omega) (by omega)
    rw [this, hz1]
    simp [Value.cells]
  have hm := row_made w w.heap.size 37 #[.int .i64 0, .int .i64 0] 2 (by omega) pairC pair0 pairC_len rfl ps.length (Nat.le_refl _) (by unfold maxLen; omega)
  clear hi hz0 hz1 hz2
  go_enter Try.func6, Try.ntmps6
  go_wp2
  clear hmk
  go_loopw [4] (fun i wr => ∃ k : Nat, k ≤ ps.length ∧ i = .int .i64 k ∧ PairO wr w.heap.size (w.heap.size + 1) (.slice (some ⟨w.heap.size, 0, none⟩) ps.length ps.length) (ps.take k ++ List.replicate (ps.length - k) pair0) ∧ Kept w wr) (fun i _ => ps.length - (intOf i).toNat)
  case atStart => exact ⟨0, by omega, rfl, by simpa [PairO] using hm, (But.refl _ _ _).alloc _⟩
  case round =>
    obtain ⟨k, hk, rfl, ho, hkp⟩ := hrel
    by_cases hlt : k < ps.length
    · obtain ⟨p, hp⟩ : ∃ p, ps[k]? = some p := ⟨_, List.getElem?_eq_getElem hlt⟩
      obtain ⟨b, o, cap', e, c0, c1⟩ := pair_get (hv.kept hkp) hp
      cases e
      clear hm
      go_wp2_with (go_at_call 14; refine (toPair _ _ _).mono ?_; rintro e w' ⟨rfl, hk2⟩
                   have ho2 := PairO.kept ho hk2
                   obtain ⟨d0, d1, dz⟩ := ho2.cells (fill_get ps pair0 hlt)
                   have dz0 := dz (k * 2)
                   have dz1 := dz (k * 2 + 1)
                   obtain ⟨e1, d5⟩ := ho2.store (fill_len ps pair0 (by omega)).symm (fill_get ps pair0 hlt) p
                   have HS : Hid _ := d5
                   clear d5 dz ho ho2)
      refine ⟨⟨k + 1, hlt, by go_num, by rw [← fill_set ps pair0 hp]; exact HS.out, ?_⟩, by simp [intOf]; omega⟩
      exact (((hkp.trans hk2).setNew (by simp) _).setNew (by simp) _)
    · have hke : k = ps.length := by omega
      subst hke
      clear hm
      have hsz := hkp.size
      go_wp2
      go_ret
      have hs := own_lt ho.1 (g := w.heap.size) rfl
      refine ⟨_, rfl, ?_, hkp⟩
      simp only [Nat.sub_self, List.replicate_zero, List.append_nil, List.take_length] at ho
      exact RowO.low ho

end Go.Proofs.Ytcbenpnnjkgkdaa
