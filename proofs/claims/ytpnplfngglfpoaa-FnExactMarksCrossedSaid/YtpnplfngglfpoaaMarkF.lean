/-
  Lists of marks weighed, copied, and held against one another.
-/
import Derived.Test.YtpnplfngglfpoaaRows
import Derived.Test.YtpnplfngglfpoaaMark
namespace Go.Proofs.Ytpnplfngglfpoaa
open Go.ChangeShapes Go.WideShapes Go.ChangeAt Go.RowKit

theorem szMark (f0 : Int) (f1 : ByteArray) (left : Int) (w : World) (hl : 0 ≤ left) (hm : left ≤ 1048576) (hs : f1.size ≤ 9223372036854775807) :
    Calls Try.prog 88 #[.agg #[.int .i64 f0, .string f1], .int .i64 left] w fun e w' => e = .returned (.int .i64 (if (f1.size : Int) ≤ left then left - f1.size else -1)) ∧ w' = w.alloc (.cells #[.int .i64 f0, .string f1] 123) := by
  go_enter Try.func88, Try.ntmps88
  go_wp2
  · go_ret
    exact ⟨rfl, rfl⟩
  · go_ret
    exact ⟨rfl, rfl⟩

/-- How much a list weighs: its length and its texts' bytes. -/
def markSum (ps : List MarkD) : Nat := (ps.map fun p => p.2.size).sum
def markCost (ps : List MarkD) : Nat := ps.length + markSum ps
theorem markSum_snoc (l : List MarkD) (p : MarkD) : markSum (l ++ [p]) = markSum l + p.2.size := by simp [markSum]
theorem markSum_take (l : List MarkD) (k : Nat) : markSum (l.take k) ≤ markSum l := by
  have h := congrArg markSum (List.take_append_drop k l)
  have h2 : ∀ a b : List MarkD, markSum (a ++ b) = markSum a + markSum b := fun a b => by simp [markSum]
  rw [h2] at h
  omega
theorem markSum_le {l : List MarkD} {k : Nat} {p : MarkD} (h : l[k]? = some p) : p.2.size ≤ markSum l := by
  have := markSum_take l (k + 1)
  rw [take_snoc h, markSum_snoc] at this
  omega

set_option maxHeartbeats 1000000 in
theorem szMarkS (ps : List MarkD) (v : Value) (left : Int) (w : World) (hv : MarkAt w v ps) (hl : 0 ≤ left) (hm : left ≤ 1048576) (hn : ps.length ≤ 9223372036854775807) (hs : ∀ p ∈ ps, p.2.size ≤ 9223372036854775807) :
    Calls Try.prog 61 #[v, .int .i64 left] w fun e w' => e = .returned (.int .i64 (leftOf left (markCost ps))) ∧ Kept w w' := by
  obtain ⟨ao, cap, hsl⟩ := row_nil hv
  subst hsl
  by_cases hc : left < (ps.length : Int)
  · go_enter Try.func61, Try.ntmps61
    go_wp2
    go_ret
    exact ⟨ret_int (leftOf_no (by unfold markCost; omega)).symm, But.refl _ _ _⟩
  · have hc' : (ps.length : Int) ≤ left := by omega
    have hc2 : decide (left - (ps.length : Int) < 0) = false := by simp; omega
    go_enter Try.func61, Try.ntmps61
    go_wp2
    go_loopw [1, 5] (fun l i wr => ∃ (k : Nat) (c : Int), k ≤ ps.length ∧ i = .int .i64 k ∧ l = .int .i64 c ∧ c = left - ps.length - markSum (ps.take k) ∧ 0 ≤ c ∧ Kept w wr) (fun l i _ => ps.length - (intOf i).toNat)
    case atStart => exact ⟨0, _, by omega, rfl, rfl, by simp [markSum], by omega, But.refl _ _ _⟩
    case round =>
      obtain ⟨k, c, hk, rfl, rfl, hcv, h0, hkp⟩ := hrel
      have HC : Hid (c = left - ps.length - markSum (ps.take k)) := hcv
      clear hcv
      by_cases hlt : k < ps.length
      · obtain ⟨p, hp⟩ : ∃ p, ps[k]? = some p := ⟨_, List.getElem?_eq_getElem hlt⟩
        obtain ⟨b, o, cap', e, c0, c1⟩ := mark_get (hv.kept hkp) hp
        cases e
        have hcm : c ≤ 1048576 := by have := HC.out; omega
        have hps := hs p (List.mem_of_getElem? hp)
        have hsn := markSum_snoc (ps.take k) p
        rw [← take_snoc hp] at hsn
        have hst := markSum_take ps (k + 1)
        have HS : Hid (markSum (ps.take (k + 1)) = markSum (ps.take k) + p.2.size ∧ markSum (ps.take (k + 1)) ≤ markSum ps) := ⟨hsn, hst⟩
        clear hsn hst
        by_cases hle : (p.2.size : Int) ≤ c
        · have hd : decide (c - (p.2.size : Int) < 0) = false := by simp; omega
          go_wp2_with (go_at_call 88; refine (szMark _ _ _ _ h0 hcm hps).mono ?_; rintro e w' ⟨rfl, rfl⟩; rw [if_pos hle])
          exact ⟨⟨k + 1, _, hlt, by go_num, rfl, by have := HC.out; have := HS.out; omega, by omega, hkp.alloc _⟩, by simp [intOf]; omega⟩
        · go_wp2_with (go_at_call 88; refine (szMark _ _ _ _ h0 hcm hps).mono ?_; rintro e w' ⟨rfl, rfl⟩; rw [if_neg hle])
          go_ret
          exact ⟨ret_int (leftOf_no (by have := HC.out; have := HS.out; unfold markCost; omega)).symm, hkp.alloc _⟩
      · have hke : k = ps.length := by omega
        subst hke
        go_wp2
        go_ret
        have := HC.out
        rw [List.take_length] at this
        exact ⟨ret_int (by rw [leftOf_yes (by unfold markCost; omega)]; unfold markCost; omega), hkp⟩

theorem toMark (f0 : Int) (f1 : ByteArray) (w : World) :
    Calls Try.prog 92 #[.agg #[.int .i64 f0, .string f1]] w fun e w' => e = .returned (.agg #[.int .i64 f0, .string f1]) ∧ Kept w w' := by
  go_enter Try.func92, Try.ntmps92
  go_wp2
  refine bodyPost_ret (v := .agg #[.int .i64 f0, .string f1]) (by simp [results, Try.results92, go_sem]) rfl ?_
  exact ⟨rfl, (((But.refl _ _ _).alloc _).alloc _).alloc _⟩

theorem info98 : (Try.prog.info? 98).map (fun i => (i.zero, i.size, i.bytes)) = some (some (.agg #[.int .i64 0, .string ByteArray.empty]), 2, 24) := by kernel_rfl

set_option maxHeartbeats 2000000 in
theorem toMarkS (ps : List MarkD) (v : Value) (w : World) (hv : MarkAt w v ps) (hl : ps.length ≤ 1048576) :
    Calls Try.prog 64 #[v] w fun e w' => ∃ v', e = .returned v' ∧ MarkO w' w.heap.size w'.heap.size v' ps ∧ Kept w w' := by
  obtain ⟨ao, cap, hsl⟩ := row_nil hv
  subst hsl
  obtain ⟨i0, hi, hz0, hz1, hz2⟩ := info_parts info98
  have hmk : (Instr.makeSlice 42 (.int .i64 (ps.length : Int)) (.int .i64 (ps.length : Int))).run Try.prog w = .ok (.slice (some ⟨w.heap.size, 0, none⟩) ps.length ps.length) (w.alloc (.cells (madeCells #[.int .i64 0, .string ByteArray.empty] (ps.length * 2)) 98)) := by
    have := run_make (P := Try.prog) w 42 98 i0 _ Try.underlying42 hi hz0 .i64 .i64 (ps.length : Int) (ps.length : Int) (by omega) (by omega) (by rw [hz2]; omega) (by omega)
    rw [this, hz1]
    simp [Value.cells]
  have hm := row_made w w.heap.size 98 #[.int .i64 0, .string ByteArray.empty] 2 (by omega) markC mark0 markC_len rfl ps.length (Nat.le_refl _) (by unfold maxLen; omega)
  clear hi hz0 hz1 hz2
  go_enter Try.func64, Try.ntmps64
  go_wp2
  clear hmk
  go_loopw [4] (fun i wr => ∃ k : Nat, k ≤ ps.length ∧ i = .int .i64 k ∧ MarkO wr w.heap.size (w.heap.size + 1) (.slice (some ⟨w.heap.size, 0, none⟩) ps.length ps.length) (ps.take k ++ List.replicate (ps.length - k) mark0) ∧ Kept w wr) (fun i _ => ps.length - (intOf i).toNat)
  case atStart => exact ⟨0, by omega, rfl, by simpa [MarkO] using hm, (But.refl _ _ _).alloc _⟩
  case round =>
    obtain ⟨k, hk, rfl, ho, hkp⟩ := hrel
    by_cases hlt : k < ps.length
    · obtain ⟨p, hp⟩ : ∃ p, ps[k]? = some p := ⟨_, List.getElem?_eq_getElem hlt⟩
      obtain ⟨b, o, cap', e, c0, c1⟩ := mark_get (hv.kept hkp) hp
      cases e
      clear hm
      go_wp2_with (go_at_call 92; refine (toMark _ _ _).mono ?_; rintro e w' ⟨rfl, hk2⟩
                   have ho2 := MarkO.kept ho hk2
                   obtain ⟨d0, d1, dz⟩ := ho2.cells (fill_get ps mark0 hlt)
                   have dz0 := dz (k * 2)
                   have dz1 := dz (k * 2 + 1)
                   obtain ⟨e1, d5⟩ := ho2.store (fill_len ps mark0 (by omega)).symm (fill_get ps mark0 hlt) p
                   have HS : Hid _ := d5
                   clear d5 dz ho ho2)
      refine ⟨⟨k + 1, hlt, by go_num, by rw [← fill_set ps mark0 hp]; exact HS.out, ?_⟩, by simp [intOf]; omega⟩
      exact (((hkp.trans hk2).setNew (by simp) _).setNew (by simp) _)
    · have hke : k = ps.length := by omega
      subst hke
      clear hm
      have hsz := hkp.size
      go_wp2
      go_ret
      have hs := own_lt ho.1 (g := w.heap.size) rfl
      refine ⟨_, rfl, ?_, hkp⟩
      simp only [Nat.sub_self, List.replicate_zero, List.append_nil, List.take_length] at ho
      exact RowO.low ho

theorem eqMark (f0 : Int) (f1 : ByteArray) (w : World) :
    Calls Try.prog 96 #[.agg #[.int .i64 f0, .string f1], .agg #[.int .i64 f0, .string f1]] w fun e w' => e = .returned (.bool true) ∧ Kept w w' := by
  go_enter Try.func96, Try.ntmps96
  go_wp2
  go_ret
  exact ⟨rfl, ((But.refl _ _ _).alloc _).alloc _⟩

set_option maxHeartbeats 2000000 in
theorem eqMarkS (ps : List MarkD) (v v' : Value) (w : World) (hv : MarkAt w v ps) (hv' : MarkAt w v' ps) (hn : ps.length ≤ 9000000000000000000) :
    Calls Try.prog 68 #[v, v'] w fun e w' => e = .returned (.bool true) ∧ Kept w w' := by
  obtain ⟨ao, cap, hsl⟩ := row_nil hv
  subst hsl
  obtain ⟨ao', cap', hsl⟩ := row_nil hv'
  subst hsl
  go_enter Try.func68, Try.ntmps68
  go_wp2
  go_loopw [5] (fun i wr => ∃ (k : Nat), k ≤ ps.length ∧ i = .int .i64 k ∧ Kept w wr) (fun i _ => ps.length - (intOf i).toNat)
  case atStart => exact ⟨0, by omega, rfl, But.refl _ _ _⟩
  case round =>
    obtain ⟨k, hk, rfl, hkp⟩ := hrel
    by_cases hlt : k < ps.length
    · obtain ⟨p, hp⟩ : ∃ p, ps[k]? = some p := ⟨_, List.getElem?_eq_getElem hlt⟩
      obtain ⟨b, o, cap1, e, c0, c1⟩ := mark_get (hv.kept hkp) hp
      cases e
      obtain ⟨b', o', cap1', e, c0', c1'⟩ := mark_get (hv'.kept hkp) hp
      cases e
      have z1 : (0 : Int) ≤ (k : Int) := by omega
      have z2 : (k : Int) < (ps.length : Int) := by omega
      have HK : Hid _ := hkp
      clear hkp
      go_wp2_with fail
      go_region_held3 (fun w' => w'.cell? ⟨b, o + k * 2, none⟩ = some (.int .i64 p.1) ∧ w'.cell? ⟨b, o + k * 2 + 1, none⟩ = some (.string p.2) ∧ w'.cell? ⟨b', o' + k * 2, none⟩ = some (.int .i64 p.1) ∧ w'.cell? ⟨b', o' + k * 2 + 1, none⟩ = some (.string p.2)) (simp [go_sem, *])
        (first | (go_at_call 96; refine (eqMark _ _ _).mono ?_; rintro e w' ⟨rfl, hk2⟩; have c0 := Kept.cell hk2 c0; have c1 := Kept.cell hk2 c1; have c0' := Kept.cell hk2 c0'; have c1' := Kept.cell hk2 c1'))
      go_wp2
      exact ⟨⟨k + 1, hlt, by go_num, HK.out.trans ((But.refl _ _ wr).drew.trans hk2)⟩, by simp [intOf]; omega⟩
    · have hke : k = ps.length := by omega
      subst hke
      go_wp2
      go_ret
      exact ⟨rfl, hkp⟩

end Go.Proofs.Ytpnplfngglfpoaa
