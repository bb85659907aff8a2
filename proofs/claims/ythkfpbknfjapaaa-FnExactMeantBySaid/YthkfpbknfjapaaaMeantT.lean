/-
  Lists of meant ones weighed, copied, held against one another.
-/
import Derived.Test.YthkfpbknfjapaaaMeant
import Derived.Deep.RegionHeld3
namespace Go.Proofs.Ythkfpbknfjapaaa
open Go.ChangeShapes Go.WideShapes Go.ChangeAt Go.RowKit

theorem szMeant (f0 : Int) (f1 : ByteArray) (f2 : Bool) (left : Int) (w : World) (hl : 0 ≤ left) (hm : left ≤ 1048576) (hs : f1.size ≤ 9223372036854775807) :
    Calls Try.prog 75 #[.agg #[.int .i64 f0, .string f1, .bool f2], .int .i64 left] w fun e w' => e = .returned (.int .i64 (if (f1.size : Int) ≤ left then left - f1.size else -1)) ∧ w' = w.alloc (.cells #[.int .i64 f0, .string f1, .bool f2] 111) := by
  go_enter Try.func75, Try.ntmps75
  go_wp2
  · go_ret
    exact ⟨rfl, rfl⟩
  · go_ret
    exact ⟨rfl, rfl⟩

/-- How much a list weighs: its length and its texts' bytes. -/
def meantSum (ps : List MeantD) : Nat := (ps.map fun p => p.2.1.size).sum
def meantCost (ps : List MeantD) : Nat := ps.length + meantSum ps
theorem meantSum_snoc (l : List MeantD) (p : MeantD) : meantSum (l ++ [p]) = meantSum l + p.2.1.size := by simp [meantSum]
theorem meantSum_take (l : List MeantD) (k : Nat) : meantSum (l.take k) ≤ meantSum l := by
  have h := congrArg meantSum (List.take_append_drop k l)
  have h2 : ∀ a b : List MeantD, meantSum (a ++ b) = meantSum a + meantSum b := fun a b => by simp [meantSum]
  rw [h2] at h
  omega
theorem meantSum_le {l : List MeantD} {k : Nat} {p : MeantD} (h : l[k]? = some p) : p.2.1.size ≤ meantSum l := by
  have := meantSum_take l (k + 1)
  rw [take_snoc h, meantSum_snoc] at this
  omega

set_option maxHeartbeats 1000000 in
theorem szMeantS (ps : List MeantD) (v : Value) (left : Int) (w : World) (hv : MeantAt w v ps) (hl : 0 ≤ left) (hm : left ≤ 1048576) (hn : ps.length ≤ 9223372036854775807) (hs : ∀ p ∈ ps, p.2.1.size ≤ 9223372036854775807) :
    Calls Try.prog 35 #[v, .int .i64 left] w fun e w' => e = .returned (.int .i64 (leftOf left (meantCost ps))) ∧ Kept w w' := by
  obtain ⟨ao, cap, hsl⟩ := row_nil hv
  subst hsl
  by_cases hc : left < (ps.length : Int)
  · go_enter Try.func35, Try.ntmps35
    go_wp2
    go_ret
    exact ⟨ret_int (leftOf_no (by unfold meantCost; omega)).symm, But.refl _ _ _⟩
  · have hc' : (ps.length : Int) ≤ left := by omega
    have hc2 : decide (left - (ps.length : Int) < 0) = false := by simp; omega
    go_enter Try.func35, Try.ntmps35
    go_wp2
    go_loopw [1, 5] (fun l i wr => ∃ (k : Nat) (c : Int), k ≤ ps.length ∧ i = .int .i64 k ∧ l = .int .i64 c ∧ c = left - ps.length - meantSum (ps.take k) ∧ 0 ≤ c ∧ Kept w wr) (fun l i _ => ps.length - (intOf i).toNat)
    case atStart => exact ⟨0, _, by omega, rfl, rfl, by simp [meantSum], by omega, But.refl _ _ _⟩
    case round =>
      obtain ⟨k, c, hk, rfl, rfl, hcv, h0, hkp⟩ := hrel
      have HC : Hid (c = left - ps.length - meantSum (ps.take k)) := hcv
      clear hcv
      by_cases hlt : k < ps.length
      · obtain ⟨p, hp⟩ : ∃ p, ps[k]? = some p := ⟨_, List.getElem?_eq_getElem hlt⟩
        obtain ⟨b, o, cap', e, c0, c1, c2⟩ := meant_get (hv.kept hkp) hp
        cases e
        have hcm : c ≤ 1048576 := by have := HC.out; omega
        have hps := hs p (List.mem_of_getElem? hp)
        have hsn := meantSum_snoc (ps.take k) p
        rw [← take_snoc hp] at hsn
        have hst := meantSum_take ps (k + 1)
        have HS : Hid (meantSum (ps.take (k + 1)) = meantSum (ps.take k) + p.2.1.size ∧ meantSum (ps.take (k + 1)) ≤ meantSum ps) := ⟨hsn, hst⟩
        clear hsn hst
        by_cases hle : (p.2.1.size : Int) ≤ c
        · have hd : decide (c - (p.2.1.size : Int) < 0) = false := by simp; omega
          go_wp2_with (go_at_call 75; refine (szMeant _ _ _ _ _ h0 hcm hps).mono ?_; rintro e w' ⟨rfl, rfl⟩; rw [if_pos hle])
          exact ⟨⟨k + 1, _, hlt, by go_num, rfl, by have := HC.out; have := HS.out; omega, by omega, hkp.alloc _⟩, by simp [intOf]; omega⟩
        · go_wp2_with (go_at_call 75; refine (szMeant _ _ _ _ _ h0 hcm hps).mono ?_; rintro e w' ⟨rfl, rfl⟩; rw [if_neg hle])
          go_ret
          exact ⟨ret_int (leftOf_no (by have := HC.out; have := HS.out; unfold meantCost; omega)).symm, hkp.alloc _⟩
      · have hke : k = ps.length := by omega
        subst hke
        go_wp2
        go_ret
        have := HC.out
        rw [List.take_length] at this
        exact ⟨ret_int (by rw [leftOf_yes (by unfold meantCost; omega)]; unfold meantCost; omega), hkp⟩

theorem toMeant (f0 : Int) (f1 : ByteArray) (f2 : Bool) (w : World) :
    Calls Try.prog 77 #[.agg #[.int .i64 f0, .string f1, .bool f2]] w fun e w' => e = .returned (.agg #[.int .i64 f0, .string f1, .bool f2]) ∧ Kept w w' := by
  go_enter Try.func77, Try.ntmps77
  go_wp2
  refine bodyPost_ret (v := .agg #[.int .i64 f0, .string f1, .bool f2]) (by simp [results, Try.results77, go_sem]) rfl ?_
  exact ⟨rfl, (((But.refl _ _ _).alloc _).alloc _).alloc _⟩

theorem info31 : (Try.prog.info? 31).map (fun i => (i.zero, i.size, i.bytes)) = some (some (.agg #[.int .i64 0, .string ByteArray.empty, .bool false]), 3, 32) := by kernel_rfl

set_option maxHeartbeats 2000000 in
theorem toMeantS (ps : List MeantD) (v : Value) (w : World) (hv : MeantAt w v ps) (hl : ps.length ≤ 1048576) :
    Calls Try.prog 37 #[v] w fun e w' => ∃ v', e = .returned v' ∧ MeantO w' w.heap.size w'.heap.size v' ps ∧ Kept w w' := by
  obtain ⟨ao, cap, hsl⟩ := row_nil hv
  subst hsl
  obtain ⟨i0, hi, hz0, hz1, hz2⟩ := info_parts info31
  have hmk : (Instr.makeSlice 27 (.int .i64 (ps.length : Int)) (.int .i64 (ps.length : Int))).run Try.prog w = .ok (.slice (some ⟨w.heap.size, 0, none⟩) ps.length ps.length) (w.alloc (.cells (madeCells #[.int .i64 0, .string ByteArray.empty, .bool false] (ps.length * 3)) 31)) := by
    have := run_make (P := Try.prog) w 27 31 i0 _ Try.underlying27 hi hz0 .i64 .i64 (ps.length : Int) (ps.length : Int) (by omega) (by omega) (by rw [hz2]; omega) (by omega)
    rw [this, hz1]
    simp [Value.cells]
  have hm := row_made w w.heap.size 31 #[.int .i64 0, .string ByteArray.empty, .bool false] 3 (by omega) meantC meant0 meantC_len rfl ps.length (Nat.le_refl _) (by unfold maxLen; omega)
  clear hi hz0 hz1 hz2
  go_enter Try.func37, Try.ntmps37
  go_wp2
  clear hmk
  go_loopw [4] (fun i wr => ∃ k : Nat, k ≤ ps.length ∧ i = .int .i64 k ∧ MeantO wr w.heap.size (w.heap.size + 1) (.slice (some ⟨w.heap.size, 0, none⟩) ps.length ps.length) (ps.take k ++ List.replicate (ps.length - k) meant0) ∧ Kept w wr) (fun i _ => ps.length - (intOf i).toNat)
  case atStart => exact ⟨0, by omega, rfl, by simpa [MeantO] using hm, (But.refl _ _ _).alloc _⟩
  case round =>
    obtain ⟨k, hk, rfl, ho, hkp⟩ := hrel
    by_cases hlt : k < ps.length
    · obtain ⟨p, hp⟩ : ∃ p, ps[k]? = some p := ⟨_, List.getElem?_eq_getElem hlt⟩
      obtain ⟨b, o, cap', e, c0, c1, c2⟩ := meant_get (hv.kept hkp) hp
      cases e
      clear hm
      go_wp2_with (go_at_call 77; refine (toMeant _ _ _ _).mono ?_; rintro e w' ⟨rfl, hk2⟩
                   have ho2 := MeantO.kept ho hk2
                   obtain ⟨d0, d1, d2, dz⟩ := ho2.cells (fill_get ps meant0 hlt)
                   have dz0 := dz (k * 3)
                   have dz1 := dz (k * 3 + 1)
                   have dz2 := dz (k * 3 + 2)
                   obtain ⟨e1, e2, d5⟩ := ho2.store (fill_len ps meant0 (by omega)).symm (fill_get ps meant0 hlt) p
                   have HS : Hid _ := d5
                   clear d5 dz ho ho2)
      refine ⟨⟨k + 1, hlt, by go_num, by rw [← fill_set ps meant0 hp]; exact HS.out, ?_⟩, by simp [intOf]; omega⟩
      exact ((((hkp.trans hk2).setNew (by simp) _).setNew (by simp) _).setNew (by simp) _)
    · have hke : k = ps.length := by omega
      subst hke
      clear hm
      have hsz := hkp.size
      go_wp2
      go_ret
      have hs := own_lt ho.1 (g := w.heap.size) rfl
      refine ⟨_, rfl, ?_, hkp⟩
      simp only [Nat.sub_self, List.replicate_zero, List.append_nil, List.take_length] at ho
      exact RowO.low ho

theorem eqMeant (f0 : Int) (f1 : ByteArray) (f2 : Bool) (w : World) :
    Calls Try.prog 69 #[.agg #[.int .i64 f0, .string f1, .bool f2], .agg #[.int .i64 f0, .string f1, .bool f2]] w fun e w' => e = .returned (.bool true) ∧ Kept w w' := by
  go_enter Try.func69, Try.ntmps69
  go_wp2
  go_ret
  exact ⟨rfl, ((But.refl _ _ _).alloc _).alloc _⟩

set_option maxHeartbeats 2000000 in
theorem eqMeantS (ps : List MeantD) (v v' : Value) (w : World) (hv : MeantAt w v ps) (hv' : MeantAt w v' ps) (hn : ps.length ≤ 9000000000000000000) :
    Calls Try.prog 27 #[v, v'] w fun e w' => e = .returned (.bool true) ∧ Kept w w' := by
  obtain ⟨ao, cap, hsl⟩ := row_nil hv
  subst hsl
  obtain ⟨ao', cap', hsl⟩ := row_nil hv'
  subst hsl
  go_enter Try.func27, Try.ntmps27
  go_wp2
  go_loopw [5] (fun i wr => ∃ (k : Nat), k ≤ ps.length ∧ i = .int .i64 k ∧ Kept w wr) (fun i _ => ps.length - (intOf i).toNat)
  case atStart => exact ⟨0, by omega, rfl, But.refl _ _ _⟩
  case round =>
    obtain ⟨k, hk, rfl, hkp⟩ := hrel
    by_cases hlt : k < ps.length
    · obtain ⟨p, hp⟩ : ∃ p, ps[k]? = some p := ⟨_, List.getElem?_eq_getElem hlt⟩
      obtain ⟨b, o, cap1, e, c0, c1, c2⟩ := meant_get (hv.kept hkp) hp
      cases e
      obtain ⟨b', o', cap1', e, c0', c1', c2'⟩ := meant_get (hv'.kept hkp) hp
      cases e
      have z1 : (0 : Int) ≤ (k : Int) := by omega
      have z2 : (k : Int) < (ps.length : Int) := by omega
      have HK : Hid _ := hkp
      clear hkp
      go_wp2_with fail
      go_region_held3 (fun w' => w'.cell? ⟨b, o + k * 3, none⟩ = some (.int .i64 p.1) ∧ w'.cell? ⟨b, o + k * 3 + 1, none⟩ = some (.string p.2.1) ∧ w'.cell? ⟨b, o + k * 3 + 2, none⟩ = some (.bool p.2.2) ∧ w'.cell? ⟨b', o' + k * 3, none⟩ = some (.int .i64 p.1) ∧ w'.cell? ⟨b', o' + k * 3 + 1, none⟩ = some (.string p.2.1) ∧ w'.cell? ⟨b', o' + k * 3 + 2, none⟩ = some (.bool p.2.2)) (simp [go_sem, *])
        (first | (go_at_call 69; refine (eqMeant _ _ _ _).mono ?_; rintro e w' ⟨rfl, hk2⟩; have c0 := Kept.cell hk2 c0; have c1 := Kept.cell hk2 c1; have c2 := Kept.cell hk2 c2; have c0' := Kept.cell hk2 c0'; have c1' := Kept.cell hk2 c1'; have c2' := Kept.cell hk2 c2'))
      go_wp2
      exact ⟨⟨k + 1, hlt, by go_num, HK.out.trans ((But.refl _ _ wr).drew.trans hk2)⟩, by simp [intOf]; omega⟩
    · have hke : k = ps.length := by omega
      subst hke
      go_wp2
      go_ret
      exact ⟨rfl, hkp⟩

end Go.Proofs.Ythkfpbknfjapaaa
