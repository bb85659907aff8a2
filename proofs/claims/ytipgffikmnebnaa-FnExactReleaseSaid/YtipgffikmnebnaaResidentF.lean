/-
  Lists of residents weighed, copied, held against one another.
-/
import Derived.Test.YtipgffikmnebnaaResident
import Derived.Deep.RegionHeld3
namespace Go.Proofs.Ytipgffikmnebnaa
open Go.ChangeShapes Go.WideShapes Go.ChangeAt Go.RowKit

theorem szResident (f0 : ByteArray) (f1 : Int) (f2 : Int) (f3 : Int) (left : Int) (w : World) (hl : 0 ≤ left) (hm : left ≤ 1048576) (hs : f0.size ≤ 9223372036854775807) :
    Calls Try.prog 132 #[.agg #[.string f0, .int .i64 f1, .int .i64 f2, .int .i64 f3], .int .i64 left] w fun e w' => e = .returned (.int .i64 (if (f0.size : Int) ≤ left then left - f0.size else -1)) ∧ w' = w.alloc (.cells #[.string f0, .int .i64 f1, .int .i64 f2, .int .i64 f3] 176) := by
  go_enter Try.func132, Try.ntmps132
  go_wp2
  · go_ret
    exact ⟨rfl, rfl⟩
  · go_ret
    exact ⟨rfl, rfl⟩

/-- How much a list weighs: its length and its texts' bytes. -/
def residentSum (ps : List ResidentD) : Nat := (ps.map fun p => p.1.size).sum
def residentCost (ps : List ResidentD) : Nat := ps.length + residentSum ps
theorem residentSum_snoc (l : List ResidentD) (p : ResidentD) : residentSum (l ++ [p]) = residentSum l + p.1.size := by simp [residentSum]
theorem residentSum_take (l : List ResidentD) (k : Nat) : residentSum (l.take k) ≤ residentSum l := by
  have h := congrArg residentSum (List.take_append_drop k l)
  have h2 : ∀ a b : List ResidentD, residentSum (a ++ b) = residentSum a + residentSum b := fun a b => by simp [residentSum]
  rw [h2] at h
  omega
theorem residentSum_le {l : List ResidentD} {k : Nat} {p : ResidentD} (h : l[k]? = some p) : p.1.size ≤ residentSum l := by
  have := residentSum_take l (k + 1)
  rw [take_snoc h, residentSum_snoc] at this
  omega

set_option maxHeartbeats 1000000 in
theorem szResidentS (ps : List ResidentD) (v : Value) (left : Int) (w : World) (hv : ResidentAt w v ps) (hl : 0 ≤ left) (hm : left ≤ 1048576) (hn : ps.length ≤ 9223372036854775807) (hs : ∀ p ∈ ps, p.1.size ≤ 9223372036854775807) :
    Calls Try.prog 90 #[v, .int .i64 left] w fun e w' => e = .returned (.int .i64 (leftOf left (residentCost ps))) ∧ Kept w w' := by
  obtain ⟨ao, cap, hsl⟩ := row_nil hv
  subst hsl
  by_cases hc : left < (ps.length : Int)
  · go_enter Try.func90, Try.ntmps90
    go_wp2
    go_ret
    exact ⟨ret_int (leftOf_no (by unfold residentCost; omega)).symm, But.refl _ _ _⟩
  · have hc' : (ps.length : Int) ≤ left := by omega
    have hc2 : decide (left - (ps.length : Int) < 0) = false := by simp; omega
    go_enter Try.func90, Try.ntmps90
    go_wp2
    go_loopw [1, 5] (fun l i wr => ∃ (k : Nat) (c : Int), k ≤ ps.length ∧ i = .int .i64 k ∧ l = .int .i64 c ∧ c = left - ps.length - residentSum (ps.take k) ∧ 0 ≤ c ∧ Kept w wr) (fun l i _ => ps.length - (intOf i).toNat)
    case atStart => exact ⟨0, _, by omega, rfl, rfl, by simp [residentSum], by omega, But.refl _ _ _⟩
    case round =>
      obtain ⟨k, c, hk, rfl, rfl, hcv, h0, hkp⟩ := hrel
      have HC : Hid (c = left - ps.length - residentSum (ps.take k)) := hcv
      clear hcv
      by_cases hlt : k < ps.length
      · obtain ⟨p, hp⟩ : ∃ p, ps[k]? = some p := ⟨_, List.getElem?_eq_getElem hlt⟩
        obtain ⟨b, o, cap', e, c0, c1, c2, c3⟩ := resident_get (hv.kept hkp) hp
        cases e
        have hcm : c ≤ 1048576 := by have := HC.out; omega
        have hps := hs p (List.mem_of_getElem? hp)
        have hsn := residentSum_snoc (ps.take k) p
        rw [← take_snoc hp] at hsn
        have hst := residentSum_take ps (k + 1)
        have HS : Hid (residentSum (ps.take (k + 1)) = residentSum (ps.take k) + p.1.size ∧ residentSum (ps.take (k + 1)) ≤ residentSum ps) := ⟨hsn, hst⟩
        clear hsn hst
        by_cases hle : (p.1.size : Int) ≤ c
        · have hd : decide (c - (p.1.size : Int) < 0) = false := by simp; omega
          go_wp2_with (go_at_call 132; refine (szResident _ _ _ _ _ _ h0 hcm hps).mono ?_; rintro e w' ⟨rfl, rfl⟩; rw [if_pos hle])
          exact ⟨⟨k + 1, _, hlt, by go_num, rfl, by have := HC.out; have := HS.out; omega, by omega, hkp.alloc _⟩, by simp [intOf]; omega⟩
        · go_wp2_with (go_at_call 132; refine (szResident _ _ _ _ _ _ h0 hcm hps).mono ?_; rintro e w' ⟨rfl, rfl⟩; rw [if_neg hle])
          go_ret
          exact ⟨ret_int (leftOf_no (by have := HC.out; have := HS.out; unfold residentCost; omega)).symm, hkp.alloc _⟩
      · have hke : k = ps.length := by omega
        subst hke
        go_wp2
        go_ret
        have := HC.out
        rw [List.take_length] at this
        exact ⟨ret_int (by rw [leftOf_yes (by unfold residentCost; omega)]; unfold residentCost; omega), hkp⟩

theorem toResident (f0 : ByteArray) (f1 : Int) (f2 : Int) (f3 : Int) (w : World) :
    Calls Try.prog 133 #[.agg #[.string f0, .int .i64 f1, .int .i64 f2, .int .i64 f3]] w fun e w' => e = .returned (.agg #[.string f0, .int .i64 f1, .int .i64 f2, .int .i64 f3]) ∧ Kept w w' := by
  go_enter Try.func133, Try.ntmps133
  go_wp2
  refine bodyPost_ret (v := .agg #[.string f0, .int .i64 f1, .int .i64 f2, .int .i64 f3]) (by simp [results, Try.results133, go_sem]) rfl ?_
  exact ⟨rfl, (((But.refl _ _ _).alloc _).alloc _).alloc _⟩

theorem info39 : (Try.prog.info? 39).map (fun i => (i.zero, i.size, i.bytes)) = some (some (.agg #[.string ByteArray.empty, .int .i64 0, .int .i64 0, .int .i64 0]), 4, 40) := by kernel_rfl

set_option maxHeartbeats 2000000 in
theorem toResidentS (ps : List ResidentD) (v : Value) (w : World) (hv : ResidentAt w v ps) (hl : ps.length ≤ 1048576) :
    Calls Try.prog 91 #[v] w fun e w' => ∃ v', e = .returned v' ∧ ResidentO w' w.heap.size w'.heap.size v' ps ∧ Kept w w' := by
  obtain ⟨ao, cap, hsl⟩ := row_nil hv
  subst hsl
  obtain ⟨i0, hi, hz0, hz1, hz2⟩ := info_parts info39
  have hmk : (Instr.makeSlice 31 (.int .i64 (ps.length : Int)) (.int .i64 (ps.length : Int))).run Try.prog w = .ok (.slice (some ⟨w.heap.size, 0, none⟩) ps.length ps.length) (w.alloc (.cells (madeCells #[.string ByteArray.empty, .int .i64 0, .int .i64 0, .int .i64 0] (ps.length * 4)) 39)) := by
    have := run_make (P := Try.prog) w 31 39 i0 _ Try.underlying31 hi hz0 .i64 .i64 (ps.length : Int) (ps.length : Int) (by omega) (by omega) (by rw [hz2]; omega) (by omega)
    rw [this, hz1]
    simp [Value.cells]
  have hm := row_made w w.heap.size 39 #[.string ByteArray.empty, .int .i64 0, .int .i64 0, .int .i64 0] 4 (by omega) residentC resident0 residentC_len rfl ps.length (Nat.le_refl _) (by unfold maxLen; omega)
  clear hi hz0 hz1 hz2
  go_enter Try.func91, Try.ntmps91
  go_wp2
  clear hmk
  go_loopw [4] (fun i wr => ∃ k : Nat, k ≤ ps.length ∧ i = .int .i64 k ∧ ResidentO wr w.heap.size (w.heap.size + 1) (.slice (some ⟨w.heap.size, 0, none⟩) ps.length ps.length) (ps.take k ++ List.replicate (ps.length - k) resident0) ∧ Kept w wr) (fun i _ => ps.length - (intOf i).toNat)
  case atStart => exact ⟨0, by omega, rfl, by simpa [ResidentO] using hm, (But.refl _ _ _).alloc _⟩
  case round =>
    obtain ⟨k, hk, rfl, ho, hkp⟩ := hrel
    by_cases hlt : k < ps.length
    · obtain ⟨p, hp⟩ : ∃ p, ps[k]? = some p := ⟨_, List.getElem?_eq_getElem hlt⟩
      obtain ⟨b, o, cap', e, c0, c1, c2, c3⟩ := resident_get (hv.kept hkp) hp
      cases e
      clear hm
      go_wp2_with (go_at_call 133; refine (toResident _ _ _ _ _).mono ?_; rintro e w' ⟨rfl, hk2⟩
                   have ho2 := ResidentO.kept ho hk2
                   obtain ⟨d0, d1, d2, d3, dz⟩ := ho2.cells (fill_get ps resident0 hlt)
                   have dz0 := dz (k * 4)
                   have dz1 := dz (k * 4 + 1)
                   have dz2 := dz (k * 4 + 2)
                   have dz3 := dz (k * 4 + 3)
                   obtain ⟨e1, e2, e3, d5⟩ := ho2.store (fill_len ps resident0 (by omega)).symm (fill_get ps resident0 hlt) p
                   have HS : Hid _ := d5
                   clear d5 dz ho ho2)
      refine ⟨⟨k + 1, hlt, by go_num, by rw [← fill_set ps resident0 hp]; exact HS.out, ?_⟩, by simp [intOf]; omega⟩
      exact (((((hkp.trans hk2).setNew (by simp) _).setNew (by simp) _).setNew (by simp) _).setNew (by simp) _)
    · have hke : k = ps.length := by omega
      subst hke
      clear hm
      have hsz := hkp.size
      go_wp2
      go_ret
      have hs := own_lt ho.1 (g := w.heap.size) rfl
      refine ⟨_, rfl, ?_, hkp⟩
      simp only [Nat.sub_self, List.replicate_zero, List.append_nil, List.take_length] at ho
      exact RowO.low ho

theorem eqResident (f0 : ByteArray) (f1 : Int) (f2 : Int) (f3 : Int) (w : World) :
    Calls Try.prog 137 #[.agg #[.string f0, .int .i64 f1, .int .i64 f2, .int .i64 f3], .agg #[.string f0, .int .i64 f1, .int .i64 f2, .int .i64 f3]] w fun e w' => e = .returned (.bool true) ∧ Kept w w' := by
  go_enter Try.func137, Try.ntmps137
  go_wp2
  go_ret
  exact ⟨rfl, ((But.refl _ _ _).alloc _).alloc _⟩

set_option maxHeartbeats 2000000 in
theorem eqResidentS (ps : List ResidentD) (v v' : Value) (w : World) (hv : ResidentAt w v ps) (hv' : ResidentAt w v' ps) (hn : ps.length ≤ 9000000000000000000) :
    Calls Try.prog 97 #[v, v'] w fun e w' => e = .returned (.bool true) ∧ Kept w w' := by
  obtain ⟨ao, cap, hsl⟩ := row_nil hv
  subst hsl
  obtain ⟨ao', cap', hsl⟩ := row_nil hv'
  subst hsl
  go_enter Try.func97, Try.ntmps97
  go_wp2
  go_loopw [5] (fun i wr => ∃ (k : Nat), k ≤ ps.length ∧ i = .int .i64 k ∧ Kept w wr) (fun i _ => ps.length - (intOf i).toNat)
  case atStart => exact ⟨0, by omega, rfl, But.refl _ _ _⟩
  case round =>
    obtain ⟨k, hk, rfl, hkp⟩ := hrel
    by_cases hlt : k < ps.length
    · obtain ⟨p, hp⟩ : ∃ p, ps[k]? = some p := ⟨_, List.getElem?_eq_getElem hlt⟩
      obtain ⟨b, o, cap1, e, c0, c1, c2, c3⟩ := resident_get (hv.kept hkp) hp
      cases e
      obtain ⟨b', o', cap1', e, c0', c1', c2', c3'⟩ := resident_get (hv'.kept hkp) hp
      cases e
      have z1 : (0 : Int) ≤ (k : Int) := by omega
      have z2 : (k : Int) < (ps.length : Int) := by omega
      have HK : Hid _ := hkp
      clear hkp
      go_wp2_with fail
      go_region_held3 (fun w' => w'.cell? ⟨b, o + k * 4, none⟩ = some (.string p.1) ∧ w'.cell? ⟨b, o + k * 4 + 1, none⟩ = some (.int .i64 p.2.1) ∧ w'.cell? ⟨b, o + k * 4 + 2, none⟩ = some (.int .i64 p.2.2.1) ∧ w'.cell? ⟨b, o + k * 4 + 3, none⟩ = some (.int .i64 p.2.2.2) ∧ w'.cell? ⟨b', o' + k * 4, none⟩ = some (.string p.1) ∧ w'.cell? ⟨b', o' + k * 4 + 1, none⟩ = some (.int .i64 p.2.1) ∧ w'.cell? ⟨b', o' + k * 4 + 2, none⟩ = some (.int .i64 p.2.2.1) ∧ w'.cell? ⟨b', o' + k * 4 + 3, none⟩ = some (.int .i64 p.2.2.2)) (simp [go_sem, *])
        (first | (go_at_call 137; refine (eqResident _ _ _ _ _).mono ?_; rintro e w' ⟨rfl, hk2⟩; have c0 := Kept.cell hk2 c0; have c1 := Kept.cell hk2 c1; have c2 := Kept.cell hk2 c2; have c3 := Kept.cell hk2 c3; have c0' := Kept.cell hk2 c0'; have c1' := Kept.cell hk2 c1'; have c2' := Kept.cell hk2 c2'; have c3' := Kept.cell hk2 c3'))
      go_wp2
      exact ⟨⟨k + 1, hlt, by go_num, HK.out.trans ((But.refl _ _ wr).drew.trans hk2)⟩, by simp [intOf]; omega⟩
    · have hke : k = ps.length := by omega
      subst hke
      go_wp2
      go_ret
      exact ⟨rfl, hkp⟩

end Go.Proofs.Ytipgffikmnebnaa
