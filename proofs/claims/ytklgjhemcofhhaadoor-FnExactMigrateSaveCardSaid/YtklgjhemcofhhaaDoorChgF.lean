/-
  Lists of changes weighed, copied, held against one another.
-/
import Derived.Test.YtklgjhemcofhhaaDoorChg
import Derived.Deep.RegionHeld3
namespace Go.Proofs.YtklgjhemcofhhaaDoor
open Go.ChangeShapes Go.WideShapes Go.ChangeAt Go.RowKit

theorem szChg (f0 : Int) (f1 : Int) (f2 : ByteArray) (f3 : ByteArray) (f4 : Int) (left : Int) (w : World) (hl : 0 ≤ left) (hm : left ≤ 1048576) (hs : f2.size ≤ 9223372036854775807 ∧ f3.size ≤ 9223372036854775807) :
    Calls Tryd.prog 31 #[.agg #[.int .i64 f0, .int .i64 f1, .string f2, .string f3, .int .i64 f4], .int .i64 left] w fun e w' => e = .returned (.int .i64 (if ((f2.size + f3.size : Nat) : Int) ≤ left then left - (f2.size + f3.size : Nat) else -1)) ∧ w' = w.alloc (.cells #[.int .i64 f0, .int .i64 f1, .string f2, .string f3, .int .i64 f4] 68) := by
  obtain ⟨hs1, hs2⟩ := hs
  by_cases h1 : (f2.size : Int) ≤ left
  · have d1 : decide (left - (f2.size : Int) < 0) = false := by simp; omega
    by_cases h2 : ((f2.size + f3.size : Nat) : Int) ≤ left
    · have d2 : decide (left - (f2.size : Int) - (f3.size : Int) < 0) = false := by simp; omega
      rw [if_pos h2]
      have e2 : left - (f2.size : Int) - (f3.size : Int) = left - ((f2.size + f3.size : Nat) : Int) := by omega
      go_enter Tryd.func31, Tryd.ntmps31
      go_wp2
      go_ret
      exact ⟨ret_int (by omega), rfl⟩
    · have d2 : decide (left - (f2.size : Int) - (f3.size : Int) < 0) = true := by simp; omega
      rw [if_neg h2]
      go_enter Tryd.func31, Tryd.ntmps31
      go_wp2
      go_ret
      exact ⟨rfl, rfl⟩
  · have d1 : decide (left - (f2.size : Int) < 0) = true := by simp; omega
    rw [if_neg (by omega)]
    go_enter Tryd.func31, Tryd.ntmps31
    go_wp2
    go_ret
    exact ⟨rfl, rfl⟩
def chgW (p : ChgD) : Nat := p.2.2.1.size + p.2.2.2.1.size
/-- How much a list weighs: its length and its texts' bytes. -/
def chgSum (ps : List ChgD) : Nat := (ps.map fun p => chgW p).sum
def chgCost (ps : List ChgD) : Nat := ps.length + chgSum ps
theorem chgSum_snoc (l : List ChgD) (p : ChgD) : chgSum (l ++ [p]) = chgSum l + chgW p := by simp [chgSum]
theorem chgSum_take (l : List ChgD) (k : Nat) : chgSum (l.take k) ≤ chgSum l := by
  have h := congrArg chgSum (List.take_append_drop k l)
  have h2 : ∀ a b : List ChgD, chgSum (a ++ b) = chgSum a + chgSum b := fun a b => by simp [chgSum]
  rw [h2] at h
  omega
theorem chgSum_le {l : List ChgD} {k : Nat} {p : ChgD} (h : l[k]? = some p) : chgW p ≤ chgSum l := by
  have := chgSum_take l (k + 1)
  rw [take_snoc h, chgSum_snoc] at this
  omega

set_option maxHeartbeats 1000000 in
theorem szChgS (ps : List ChgD) (v : Value) (left : Int) (w : World) (hv : ChgAt w v ps) (hl : 0 ≤ left) (hm : left ≤ 1048576) (hn : ps.length ≤ 9223372036854775807) (hs : ∀ p ∈ ps, p.2.2.1.size ≤ 9223372036854775807 ∧ p.2.2.2.1.size ≤ 9223372036854775807) :
    Calls Tryd.prog 14 #[v, .int .i64 left] w fun e w' => e = .returned (.int .i64 (leftOf left (chgCost ps))) ∧ Kept w w' := by
  obtain ⟨ao, cap, hsl⟩ := row_nil hv
  subst hsl
  by_cases hc : left < (ps.length : Int)
  · go_enter Tryd.func14, Tryd.ntmps14
    go_wp2
    go_ret
    exact ⟨ret_int (leftOf_no (by unfold chgCost; omega)).symm, But.refl _ _ _⟩
  · have hc' : (ps.length : Int) ≤ left := by omega
    have hc2 : decide (left - (ps.length : Int) < 0) = false := by simp; omega
    go_enter Tryd.func14, Tryd.ntmps14
    go_wp2
    go_loopw [1, 5] (fun l i wr => ∃ (k : Nat) (c : Int), k ≤ ps.length ∧ i = .int .i64 k ∧ l = .int .i64 c ∧ c = left - ps.length - chgSum (ps.take k) ∧ 0 ≤ c ∧ Kept w wr) (fun l i _ => ps.length - (intOf i).toNat)
    case atStart => exact ⟨0, _, by omega, rfl, rfl, by simp [chgSum], by omega, But.refl _ _ _⟩
    case round =>
      obtain ⟨k, c, hk, rfl, rfl, hcv, h0, hkp⟩ := hrel
      have HC : Hid (c = left - ps.length - chgSum (ps.take k)) := hcv
      clear hcv
      by_cases hlt : k < ps.length
      · obtain ⟨p, hp⟩ : ∃ p, ps[k]? = some p := ⟨_, List.getElem?_eq_getElem hlt⟩
        obtain ⟨b, o, cap', e, c0, c1, c2, c3, c4⟩ := chg_get (hv.kept hkp) hp
        cases e
        have hcm : c ≤ 1048576 := by have := HC.out; omega
        have hps := hs p (List.mem_of_getElem? hp)
        have hsn := chgSum_snoc (ps.take k) p
        rw [← take_snoc hp] at hsn
        have hst := chgSum_take ps (k + 1)
        have HS : Hid (chgSum (ps.take (k + 1)) = chgSum (ps.take k) + chgW p ∧ chgSum (ps.take (k + 1)) ≤ chgSum ps) := ⟨hsn, hst⟩
        clear hsn hst
        by_cases hle : (chgW p : Int) ≤ c
        · have hd : decide (c - ((p.2.2.1.size + p.2.2.2.1.size : Nat) : Int) < 0) = false := by unfold chgW at hle; simp; omega
          go_wp2_with (go_at_call 31; refine (szChg _ _ _ _ _ _ _ h0 hcm hps).mono ?_; rintro e w' ⟨rfl, rfl⟩; have hle2 := hle; unfold chgW at hle2; rw [if_pos hle2])
          exact ⟨⟨k + 1, _, hlt, by go_num, rfl, by have := HC.out; have := HS.out; unfold chgW at *; omega, by unfold chgW at hle; omega, hkp.alloc _⟩, by simp [intOf]; omega⟩
        · go_wp2_with (go_at_call 31; refine (szChg _ _ _ _ _ _ _ h0 hcm hps).mono ?_; rintro e w' ⟨rfl, rfl⟩; have hle2 := hle; unfold chgW at hle2; rw [if_neg hle2])
          go_ret
          exact ⟨ret_int (leftOf_no (by have := HC.out; have := HS.out; unfold chgCost; omega)).symm, hkp.alloc _⟩
      · have hke : k = ps.length := by omega
        subst hke
        go_wp2
        go_ret
        have := HC.out
        rw [List.take_length] at this
        exact ⟨ret_int (by rw [leftOf_yes (by unfold chgCost; omega)]; unfold chgCost; omega), hkp⟩

theorem toChg (f0 : Int) (f1 : Int) (f2 : ByteArray) (f3 : ByteArray) (f4 : Int) (w : World) :
    Calls Tryd.prog 38 #[.agg #[.int .i64 f0, .int .i64 f1, .string f2, .string f3, .int .i64 f4]] w fun e w' => e = .returned (.agg #[.int .i64 f0, .int .i64 f1, .string f2, .string f3, .int .i64 f4]) ∧ Kept w w' := by
  go_enter Tryd.func38, Tryd.ntmps38
  go_wp2
  refine bodyPost_ret (v := .agg #[.int .i64 f0, .int .i64 f1, .string f2, .string f3, .int .i64 f4]) (by simp [results, Tryd.results38, go_sem]) rfl ?_
  exact ⟨rfl, (((But.refl _ _ _).alloc _).alloc _).alloc _⟩

theorem info70 : (Tryd.prog.info? 70).map (fun i => (i.zero, i.size, i.bytes)) = some (some (.agg #[.int .i64 0, .int .i64 0, .string ByteArray.empty, .string ByteArray.empty, .int .i64 0]), 5, 56) := by kernel_rfl

set_option maxHeartbeats 2000000 in
theorem toChgS (ps : List ChgD) (v : Value) (w : World) (hv : ChgAt w v ps) (hl : ps.length ≤ 1048576) :
    Calls Tryd.prog 17 #[v] w fun e w' => ∃ v', e = .returned v' ∧ ChgO w' w.heap.size w'.heap.size v' ps ∧ Kept w w' := by
  obtain ⟨ao, cap, hsl⟩ := row_nil hv
  subst hsl
  obtain ⟨i0, hi, hz0, hz1, hz2⟩ := info_parts info70
  have hmk : (Instr.makeSlice 39 (.int .i64 (ps.length : Int)) (.int .i64 (ps.length : Int))).run Tryd.prog w = .ok (.slice (some ⟨w.heap.size, 0, none⟩) ps.length ps.length) (w.alloc (.cells (madeCells #[.int .i64 0, .int .i64 0, .string ByteArray.empty, .string ByteArray.empty, .int .i64 0] (ps.length * 5)) 70)) := by
    have := run_make (P := Tryd.prog) w 39 70 i0 _ Tryd.underlying39 hi hz0 .i64 .i64 (ps.length : Int) (ps.length : Int) (by omega) (by omega) (by rw [hz2]; omega) (by omega)
    rw [this, hz1]
    simp [Value.cells]
  have hm := row_made w w.heap.size 70 #[.int .i64 0, .int .i64 0, .string ByteArray.empty, .string ByteArray.empty, .int .i64 0] 5 (by omega) chgC chg0 chgC_len rfl ps.length (Nat.le_refl _) (by unfold maxLen; omega)
  clear hi hz0 hz1 hz2
  go_enter Tryd.func17, Tryd.ntmps17
  go_wp2
  clear hmk
  go_loopw [4] (fun i wr => ∃ k : Nat, k ≤ ps.length ∧ i = .int .i64 k ∧ ChgO wr w.heap.size (w.heap.size + 1) (.slice (some ⟨w.heap.size, 0, none⟩) ps.length ps.length) (ps.take k ++ List.replicate (ps.length - k) chg0) ∧ Kept w wr) (fun i _ => ps.length - (intOf i).toNat)
  case atStart => exact ⟨0, by omega, rfl, by simpa [ChgO] using hm, (But.refl _ _ _).alloc _⟩
  case round =>
    obtain ⟨k, hk, rfl, ho, hkp⟩ := hrel
    by_cases hlt : k < ps.length
    · obtain ⟨p, hp⟩ : ∃ p, ps[k]? = some p := ⟨_, List.getElem?_eq_getElem hlt⟩
      obtain ⟨b, o, cap', e, c0, c1, c2, c3, c4⟩ := chg_get (hv.kept hkp) hp
      cases e
      clear hm
      go_wp2_with (go_at_call 38; refine (toChg _ _ _ _ _ _).mono ?_; rintro e w' ⟨rfl, hk2⟩
                   have ho2 := ChgO.kept ho hk2
                   obtain ⟨d0, d1, d2, d3, d4, dz⟩ := ho2.cells (fill_get ps chg0 hlt)
                   have dz0 := dz (k * 5)
                   have dz1 := dz (k * 5 + 1)
                   have dz2 := dz (k * 5 + 2)
                   have dz3 := dz (k * 5 + 3)
                   have dz4 := dz (k * 5 + 4)
                   obtain ⟨e1, e2, e3, e4, d5⟩ := ho2.store (fill_len ps chg0 (by omega)).symm (fill_get ps chg0 hlt) p
                   have HS : Hid _ := d5
                   clear d5 dz ho ho2)
      refine ⟨⟨k + 1, hlt, by go_num, by rw [← fill_set ps chg0 hp]; exact HS.out, ?_⟩, by simp [intOf]; omega⟩
      exact ((((((hkp.trans hk2).setNew (by simp) _).setNew (by simp) _).setNew (by simp) _).setNew (by simp) _).setNew (by simp) _)
    · have hke : k = ps.length := by omega
      subst hke
      clear hm
      have hsz := hkp.size
      go_wp2
      go_ret
      have hs := own_lt ho.1 (g := w.heap.size) rfl
      refine ⟨_, rfl, ?_, hkp⟩
      simp only [Nat.sub_self, List.replicate_zero, List.append_nil, List.take_length] at ho
      exact RowO.low ho

theorem eqChg (f0 : Int) (f1 : Int) (f2 : ByteArray) (f3 : ByteArray) (f4 : Int) (w : World) :
    Calls Tryd.prog 40 #[.agg #[.int .i64 f0, .int .i64 f1, .string f2, .string f3, .int .i64 f4], .agg #[.int .i64 f0, .int .i64 f1, .string f2, .string f3, .int .i64 f4]] w fun e w' => e = .returned (.bool true) ∧ Kept w w' := by
  go_enter Tryd.func40, Tryd.ntmps40
  go_wp2
  go_ret
  exact ⟨rfl, ((But.refl _ _ _).alloc _).alloc _⟩

set_option maxHeartbeats 2000000 in
theorem eqChgS (ps : List ChgD) (v v' : Value) (w : World) (hv : ChgAt w v ps) (hv' : ChgAt w v' ps) (hn : ps.length ≤ 9000000000000000000) :
    Calls Tryd.prog 19 #[v, v'] w fun e w' => e = .returned (.bool true) ∧ Kept w w' := by
  obtain ⟨ao, cap, hsl⟩ := row_nil hv
  subst hsl
  obtain ⟨ao', cap', hsl⟩ := row_nil hv'
  subst hsl
  go_enter Tryd.func19, Tryd.ntmps19
  go_wp2
  go_loopw [5] (fun i wr => ∃ (k : Nat), k ≤ ps.length ∧ i = .int .i64 k ∧ Kept w wr) (fun i _ => ps.length - (intOf i).toNat)
  case atStart => exact ⟨0, by omega, rfl, But.refl _ _ _⟩
  case round =>
    obtain ⟨k, hk, rfl, hkp⟩ := hrel
    by_cases hlt : k < ps.length
    · obtain ⟨p, hp⟩ : ∃ p, ps[k]? = some p := ⟨_, List.getElem?_eq_getElem hlt⟩
      obtain ⟨b, o, cap1, e, c0, c1, c2, c3, c4⟩ := chg_get (hv.kept hkp) hp
      cases e
      obtain ⟨b', o', cap1', e, c0', c1', c2', c3', c4'⟩ := chg_get (hv'.kept hkp) hp
      cases e
      have z1 : (0 : Int) ≤ (k : Int) := by omega
      have z2 : (k : Int) < (ps.length : Int) := by omega
      have HK : Hid _ := hkp
      clear hkp
      go_wp2_with fail
      go_region_held3 (fun w' => w'.cell? ⟨b, o + k * 5, none⟩ = some (.int .i64 p.1) ∧ w'.cell? ⟨b, o + k * 5 + 1, none⟩ = some (.int .i64 p.2.1) ∧ w'.cell? ⟨b, o + k * 5 + 2, none⟩ = some (.string p.2.2.1) ∧ w'.cell? ⟨b, o + k * 5 + 3, none⟩ = some (.string p.2.2.2.1) ∧ w'.cell? ⟨b, o + k * 5 + 4, none⟩ = some (.int .i64 p.2.2.2.2) ∧ w'.cell? ⟨b', o' + k * 5, none⟩ = some (.int .i64 p.1) ∧ w'.cell? ⟨b', o' + k * 5 + 1, none⟩ = some (.int .i64 p.2.1) ∧ w'.cell? ⟨b', o' + k * 5 + 2, none⟩ = some (.string p.2.2.1) ∧ w'.cell? ⟨b', o' + k * 5 + 3, none⟩ = some (.string p.2.2.2.1) ∧ w'.cell? ⟨b', o' + k * 5 + 4, none⟩ = some (.int .i64 p.2.2.2.2)) (simp [go_sem, *])
        (first | (go_at_call 40; refine (eqChg _ _ _ _ _ _).mono ?_; rintro e w' ⟨rfl, hk2⟩; have c0 := Kept.cell hk2 c0; have c1 := Kept.cell hk2 c1; have c2 := Kept.cell hk2 c2; have c3 := Kept.cell hk2 c3; have c4 := Kept.cell hk2 c4; have c0' := Kept.cell hk2 c0'; have c1' := Kept.cell hk2 c1'; have c2' := Kept.cell hk2 c2'; have c3' := Kept.cell hk2 c3'; have c4' := Kept.cell hk2 c4'))
      go_wp2
      exact ⟨⟨k + 1, hlt, by go_num, HK.out.trans ((But.refl _ _ wr).drew.trans hk2)⟩, by simp [intOf]; omega⟩
    · have hke : k = ps.length := by omega
      subst hke
      go_wp2
      go_ret
      exact ⟨rfl, hkp⟩

end Go.Proofs.YtklgjhemcofhhaaDoor
