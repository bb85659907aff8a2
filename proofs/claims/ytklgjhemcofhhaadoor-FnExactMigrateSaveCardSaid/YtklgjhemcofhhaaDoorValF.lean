/-
  Lists of values weighed, copied, held against one another.
-/
import Derived.Test.YtklgjhemcofhhaaDoorVal
import Derived.Deep.RegionHeld3
namespace Go.Proofs.YtklgjhemcofhhaaDoor
open Go.ChangeShapes Go.WideShapes Go.ChangeAt Go.RowKit

theorem szVal (f0 : ByteArray) (f1 : Int) (f2 : ByteArray) (left : Int) (w : World) (hl : 0 ≤ left) (hm : left ≤ 1048576) (hs : f0.size ≤ 9223372036854775807 ∧ f2.size ≤ 9223372036854775807) :
    Calls Tryd.prog 30 #[.agg #[.string f0, .int .i64 f1, .string f2], .int .i64 left] w fun e w' => e = .returned (.int .i64 (if ((f0.size + f2.size : Nat) : Int) ≤ left then left - (f0.size + f2.size : Nat) else -1)) ∧ w' = w.alloc (.cells #[.string f0, .int .i64 f1, .string f2] 65) := by
  obtain ⟨hs1, hs2⟩ := hs
  by_cases h1 : (f0.size : Int) ≤ left
  · have d1 : decide (left - (f0.size : Int) < 0) = false := by simp; omega
    by_cases h2 : ((f0.size + f2.size : Nat) : Int) ≤ left
    · have d2 : decide (left - (f0.size : Int) - (f2.size : Int) < 0) = false := by simp; omega
      rw [if_pos h2]
      have e2 : left - (f0.size : Int) - (f2.size : Int) = left - ((f0.size + f2.size : Nat) : Int) := by omega
      go_enter Tryd.func30, Tryd.ntmps30
      go_wp2
      go_ret
      exact ⟨ret_int (by omega), rfl⟩
    · have d2 : decide (left - (f0.size : Int) - (f2.size : Int) < 0) = true := by simp; omega
      rw [if_neg h2]
      go_enter Tryd.func30, Tryd.ntmps30
      go_wp2
      go_ret
      exact ⟨rfl, rfl⟩
  · have d1 : decide (left - (f0.size : Int) < 0) = true := by simp; omega
    rw [if_neg (by omega)]
    go_enter Tryd.func30, Tryd.ntmps30
    go_wp2
    go_ret
    exact ⟨rfl, rfl⟩
def valW (p : ValD) : Nat := p.1.size + p.2.2.size
/-- How much a list weighs: its length and its texts' bytes. -/
def valSum (ps : List ValD) : Nat := (ps.map fun p => valW p).sum
def valCost (ps : List ValD) : Nat := ps.length + valSum ps
theorem valSum_snoc (l : List ValD) (p : ValD) : valSum (l ++ [p]) = valSum l + valW p := by simp [valSum]
theorem valSum_take (l : List ValD) (k : Nat) : valSum (l.take k) ≤ valSum l := by
  have h := congrArg valSum (List.take_append_drop k l)
  have h2 : ∀ a b : List ValD, valSum (a ++ b) = valSum a + valSum b := fun a b => by simp [valSum]
  rw [h2] at h
  omega
theorem valSum_le {l : List ValD} {k : Nat} {p : ValD} (h : l[k]? = some p) : valW p ≤ valSum l := by
  have := valSum_take l (k + 1)
  rw [take_snoc h, valSum_snoc] at this
  omega

set_option maxHeartbeats 1000000 in
theorem szValS (ps : List ValD) (v : Value) (left : Int) (w : World) (hv : ValAt w v ps) (hl : 0 ≤ left) (hm : left ≤ 1048576) (hn : ps.length ≤ 9223372036854775807) (hs : ∀ p ∈ ps, p.1.size ≤ 9223372036854775807 ∧ p.2.2.size ≤ 9223372036854775807) :
    Calls Tryd.prog 13 #[v, .int .i64 left] w fun e w' => e = .returned (.int .i64 (leftOf left (valCost ps))) ∧ Kept w w' := by
  obtain ⟨ao, cap, hsl⟩ := row_nil hv
  subst hsl
  by_cases hc : left < (ps.length : Int)
  · go_enter Tryd.func13, Tryd.ntmps13
    go_wp2
    go_ret
    exact ⟨ret_int (leftOf_no (by unfold valCost; omega)).symm, But.refl _ _ _⟩
  · have hc' : (ps.length : Int) ≤ left := by omega
    have hc2 : decide (left - (ps.length : Int) < 0) = false := by simp; omega
    go_enter Tryd.func13, Tryd.ntmps13
    go_wp2
    go_loopw [1, 5] (fun l i wr => ∃ (k : Nat) (c : Int), k ≤ ps.length ∧ i = .int .i64 k ∧ l = .int .i64 c ∧ c = left - ps.length - valSum (ps.take k) ∧ 0 ≤ c ∧ Kept w wr) (fun l i _ => ps.length - (intOf i).toNat)
    case atStart => exact ⟨0, _, by omega, rfl, rfl, by simp [valSum], by omega, But.refl _ _ _⟩
    case round =>
      obtain ⟨k, c, hk, rfl, rfl, hcv, h0, hkp⟩ := hrel
      have HC : Hid (c = left - ps.length - valSum (ps.take k)) := hcv
      clear hcv
      by_cases hlt : k < ps.length
      · obtain ⟨p, hp⟩ : ∃ p, ps[k]? = some p := ⟨_, List.getElem?_eq_getElem hlt⟩
        obtain ⟨b, o, cap', e, c0, c1, c2⟩ := val_get (hv.kept hkp) hp
        cases e
        have hcm : c ≤ 1048576 := by have := HC.out; omega
        have hps := hs p (List.mem_of_getElem? hp)
        have hsn := valSum_snoc (ps.take k) p
        rw [← take_snoc hp] at hsn
        have hst := valSum_take ps (k + 1)
        have HS : Hid (valSum (ps.take (k + 1)) = valSum (ps.take k) + valW p ∧ valSum (ps.take (k + 1)) ≤ valSum ps) := ⟨hsn, hst⟩
        clear hsn hst
        by_cases hle : (valW p : Int) ≤ c
        · have hd : decide (c - ((p.1.size + p.2.2.size : Nat) : Int) < 0) = false := by unfold valW at hle; simp; omega
          go_wp2_with (go_at_call 30; refine (szVal _ _ _ _ _ h0 hcm hps).mono ?_; rintro e w' ⟨rfl, rfl⟩; have hle2 := hle; unfold valW at hle2; rw [if_pos hle2])
          exact ⟨⟨k + 1, _, hlt, by go_num, rfl, by have := HC.out; have := HS.out; unfold valW at *; omega, by unfold valW at hle; omega, hkp.alloc _⟩, by simp [intOf]; omega⟩
        · go_wp2_with (go_at_call 30; refine (szVal _ _ _ _ _ h0 hcm hps).mono ?_; rintro e w' ⟨rfl, rfl⟩; have hle2 := hle; unfold valW at hle2; rw [if_neg hle2])
          go_ret
          exact ⟨ret_int (leftOf_no (by have := HC.out; have := HS.out; unfold valCost; omega)).symm, hkp.alloc _⟩
      · have hke : k = ps.length := by omega
        subst hke
        go_wp2
        go_ret
        have := HC.out
        rw [List.take_length] at this
        exact ⟨ret_int (by rw [leftOf_yes (by unfold valCost; omega)]; unfold valCost; omega), hkp⟩

theorem toVal (f0 : ByteArray) (f1 : Int) (f2 : ByteArray) (w : World) :
    Calls Tryd.prog 37 #[.agg #[.string f0, .int .i64 f1, .string f2]] w fun e w' => e = .returned (.agg #[.string f0, .int .i64 f1, .string f2]) ∧ Kept w w' := by
  go_enter Tryd.func37, Tryd.ntmps37
  go_wp2
  refine bodyPost_ret (v := .agg #[.string f0, .int .i64 f1, .string f2]) (by simp [results, Tryd.results37, go_sem]) rfl ?_
  exact ⟨rfl, (((But.refl _ _ _).alloc _).alloc _).alloc _⟩

theorem info53 : (Tryd.prog.info? 53).map (fun i => (i.zero, i.size, i.bytes)) = some (some (.agg #[.string ByteArray.empty, .int .i64 0, .string ByteArray.empty]), 3, 40) := by kernel_rfl

set_option maxHeartbeats 2000000 in
theorem toValS (ps : List ValD) (v : Value) (w : World) (hv : ValAt w v ps) (hl : ps.length ≤ 1048576) :
    Calls Tryd.prog 16 #[v] w fun e w' => ∃ v', e = .returned v' ∧ ValO w' w.heap.size w'.heap.size v' ps ∧ Kept w w' := by
  obtain ⟨ao, cap, hsl⟩ := row_nil hv
  subst hsl
  obtain ⟨i0, hi, hz0, hz1, hz2⟩ := info_parts info53
  have hmk : (Instr.makeSlice 23 (.int .i64 (ps.length : Int)) (.int .i64 (ps.length : Int))).run Tryd.prog w = .ok (.slice (some ⟨w.heap.size, 0, none⟩) ps.length ps.length) (w.alloc (.cells (madeCells #[.string ByteArray.empty, .int .i64 0, .string ByteArray.empty] (ps.length * 3)) 53)) := by
    have := run_make (P := Tryd.prog) w 23 53 i0 _ Tryd.underlying23 hi hz0 .i64 .i64 (ps.length : Int) (ps.length : Int) (by omega) (by omega) (by rw [hz2]; omega) (by omega)
    rw [this, hz1]
    simp [Value.cells]
  have hm := row_made w w.heap.size 53 #[.string ByteArray.empty, .int .i64 0, .string ByteArray.empty] 3 (by omega) valC val0 valC_len rfl ps.length (Nat.le_refl _) (by unfold maxLen; omega)
  clear hi hz0 hz1 hz2
  go_enter Tryd.func16, Tryd.ntmps16
  go_wp2
  clear hmk
  go_loopw [4] (fun i wr => ∃ k : Nat, k ≤ ps.length ∧ i = .int .i64 k ∧ ValO wr w.heap.size (w.heap.size + 1) (.slice (some ⟨w.heap.size, 0, none⟩) ps.length ps.length) (ps.take k ++ List.replicate (ps.length - k) val0) ∧ Kept w wr) (fun i _ => ps.length - (intOf i).toNat)
  case atStart => exact ⟨0, by omega, rfl, by simpa [ValO] using hm, (But.refl _ _ _).alloc _⟩
  case round =>
    obtain ⟨k, hk, rfl, ho, hkp⟩ := hrel
    by_cases hlt : k < ps.length
    · obtain ⟨p, hp⟩ : ∃ p, ps[k]? = some p := ⟨_, List.getElem?_eq_getElem hlt⟩
      obtain ⟨b, o, cap', e, c0, c1, c2⟩ := val_get (hv.kept hkp) hp
      cases e
      clear hm
      go_wp2_with (go_at_call 37; refine (toVal _ _ _ _).mono ?_; rintro e w' ⟨rfl, hk2⟩
                   have ho2 := ValO.kept ho hk2
                   obtain ⟨d0, d1, d2, dz⟩ := ho2.cells (fill_get ps val0 hlt)
                   have dz0 := dz (k * 3)
                   have dz1 := dz (k * 3 + 1)
                   have dz2 := dz (k * 3 + 2)
                   obtain ⟨e1, e2, d5⟩ := ho2.store (fill_len ps val0 (by omega)).symm (fill_get ps val0 hlt) p
                   have HS : Hid _ := d5
                   clear d5 dz ho ho2)
      refine ⟨⟨k + 1, hlt, by go_num, by rw [← fill_set ps val0 hp]; exact HS.out, ?_⟩, by simp [intOf]; omega⟩
      exact ((((hkp.trans hk2).setNew (by simp) _).setNew (by simp) _).setNew (by simp) _)
    · have hke : k = ps.length := by omega
      subst hke
      clear hm
      have hsz := hkp.size
      go_wp2
      go_ret
      have hs := own_lt ho.1 (g := w.heap.size) rfl
      refine ⟨_, rfl, ?_, hkp⟩
      simp only [Nat.sub_self, List.replicate_zero, List.append_nil, List.take_length] at ho
      exact RowO.low ho

theorem eqVal (f0 : ByteArray) (f1 : Int) (f2 : ByteArray) (w : World) :
    Calls Tryd.prog 28 #[.agg #[.string f0, .int .i64 f1, .string f2], .agg #[.string f0, .int .i64 f1, .string f2]] w fun e w' => e = .returned (.bool true) ∧ Kept w w' := by
  go_enter Tryd.func28, Tryd.ntmps28
  go_wp2
  go_ret
  exact ⟨rfl, ((But.refl _ _ _).alloc _).alloc _⟩

set_option maxHeartbeats 2000000 in
theorem eqValS (ps : List ValD) (v v' : Value) (w : World) (hv : ValAt w v ps) (hv' : ValAt w v' ps) (hn : ps.length ≤ 9000000000000000000) :
    Calls Tryd.prog 8 #[v, v'] w fun e w' => e = .returned (.bool true) ∧ Kept w w' := by
  obtain ⟨ao, cap, hsl⟩ := row_nil hv
  subst hsl
  obtain ⟨ao', cap', hsl⟩ := row_nil hv'
  subst hsl
  go_enter Tryd.func8, Tryd.ntmps8
  go_wp2
  go_loopw [5] (fun i wr => ∃ (k : Nat), k ≤ ps.length ∧ i = .int .i64 k ∧ Kept w wr) (fun i _ => ps.length - (intOf i).toNat)
  case atStart => exact ⟨0, by omega, rfl, But.refl _ _ _⟩
  case round =>
    obtain ⟨k, hk, rfl, hkp⟩ := hrel
    by_cases hlt : k < ps.length
    · obtain ⟨p, hp⟩ : ∃ p, ps[k]? = some p := ⟨_, List.getElem?_eq_getElem hlt⟩
      obtain ⟨b, o, cap1, e, c0, c1, c2⟩ := val_get (hv.kept hkp) hp
      cases e
      obtain ⟨b', o', cap1', e, c0', c1', c2'⟩ := val_get (hv'.kept hkp) hp
      cases e
      have z1 : (0 : Int) ≤ (k : Int) := by omega
      have z2 : (k : Int) < (ps.length : Int) := by omega
      have HK : Hid _ := hkp
      clear hkp
      go_wp2_with fail
      go_region_held3 (fun w' => w'.cell? ⟨b, o + k * 3, none⟩ = some (.string p.1) ∧ w'.cell? ⟨b, o + k * 3 + 1, none⟩ = some (.int .i64 p.2.1) ∧ w'.cell? ⟨b, o + k * 3 + 2, none⟩ = some (.string p.2.2) ∧ w'.cell? ⟨b', o' + k * 3, none⟩ = some (.string p.1) ∧ w'.cell? ⟨b', o' + k * 3 + 1, none⟩ = some (.int .i64 p.2.1) ∧ w'.cell? ⟨b', o' + k * 3 + 2, none⟩ = some (.string p.2.2)) (simp [go_sem, *])
        (first | (go_at_call 28; refine (eqVal _ _ _ _).mono ?_; rintro e w' ⟨rfl, hk2⟩; have c0 := Kept.cell hk2 c0; have c1 := Kept.cell hk2 c1; have c2 := Kept.cell hk2 c2; have c0' := Kept.cell hk2 c0'; have c1' := Kept.cell hk2 c1'; have c2' := Kept.cell hk2 c2'))
      go_wp2
      exact ⟨⟨k + 1, hlt, by go_num, HK.out.trans ((But.refl _ _ wr).drew.trans hk2)⟩, by simp [intOf]; omega⟩
    · have hke : k = ps.length := by omega
      subst hke
      go_wp2
      go_ret
      exact ⟨rfl, hkp⟩

end Go.Proofs.YtklgjhemcofhhaaDoor
