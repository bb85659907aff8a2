/-
  Lists of tracks weighed and copied.
-/
import Derived.Test.YtpnplfngglfpoaaTrack
import Derived.Test.YtpnplfngglfpoaaTo
namespace Go.Proofs.Ytpnplfngglfpoaa
open Go.ChangeShapes Go.WideShapes Go.ChangeAt Go.RowKit

set_option maxHeartbeats 1000000 in
theorem szTrack (f0 : ByteArray) (f1 : Value) (l : List KeyD) (left : Int) (w : World) (hv : KeyAt w f1 l) (hl : 0 ≤ left) (hm : left ≤ 1048576) (hs : f0.size ≤ 9223372036854775807) (hn : l.length ≤ 9223372036854775807) :
    Calls Try.prog 87 #[.agg #[.string f0, f1], .int .i64 left] w fun e w' => e = .returned (.int .i64 (leftOf left (f0.size + l.length))) ∧ Kept w w' := by
  obtain ⟨ao, cap, hsl⟩ := row_nil hv
  subst hsl
  by_cases h1 : left < (f0.size : Int)
  · have d1 : decide (left - (f0.size : Int) < 0) = true := by simp; omega
    go_enter Try.func87, Try.ntmps87
    go_wp2
    go_ret
    exact ⟨ret_int (leftOf_no (by omega)).symm, (But.refl _ _ _).alloc _⟩
  · have d1 : decide (left - (f0.size : Int) < 0) = false := by simp; omega
    by_cases h2 : left - (f0.size : Int) < (l.length : Int)
    · go_enter Try.func87, Try.ntmps87
      go_wp2_with (go_at_call 21; refine (szKeyS l _ _ _ (hv.kept ((But.refl _ _ _).alloc _)) (by omega) (by omega) hn).mono ?_; rintro e w1 ⟨rfl, k1⟩; rw [leftOf_no (by omega)])
      go_ret
      exact ⟨ret_int (leftOf_no (by omega)).symm, But.trans ((But.refl _ _ _).alloc _) k1⟩
    · have d2 : decide (left - (f0.size : Int) - (l.length : Int) < 0) = false := by simp; omega
      go_enter Try.func87, Try.ntmps87
      go_wp2_with (go_at_call 21; refine (szKeyS l _ _ _ (hv.kept ((But.refl _ _ _).alloc _)) (by omega) (by omega) hn).mono ?_; rintro e w1 ⟨rfl, k1⟩; rw [leftOf_yes (by omega)])
      go_ret
      exact ⟨ret_int (by rw [leftOf_yes (by omega)]; omega), But.trans ((But.refl _ _ _).alloc _) k1⟩

/-- How much a list weighs. -/
def trackOne (p : TrackE) : Nat := p.1.size + p.2.2.length
def trackSum (ps : List TrackE) : Nat := (ps.map trackOne).sum
def trackCost (ps : List TrackE) : Nat := ps.length + trackSum ps
theorem trackSum_snoc (l : List TrackE) (p : TrackE) : trackSum (l ++ [p]) = trackSum l + trackOne p := by simp [trackSum]
theorem trackSum_take (l : List TrackE) (k : Nat) : trackSum (l.take k) ≤ trackSum l := by
  have h := congrArg trackSum (List.take_append_drop k l)
  have h2 : ∀ a b : List TrackE, trackSum (a ++ b) = trackSum a + trackSum b := fun a b => by simp [trackSum]
  rw [h2] at h
  omega
theorem trackSum_le {l : List TrackE} {k : Nat} {p : TrackE} (h : l[k]? = some p) : trackOne p ≤ trackSum l := by
  have := trackSum_take l (k + 1)
  rw [take_snoc h, trackSum_snoc] at this
  omega

/-- All that the counts of a list must keep to. -/
def TrackFit (ps : List TrackE) : Prop := ∀ p ∈ ps, p.1.size ≤ 9223372036854775807 ∧ p.2.2.length ≤ 9223372036854775807

set_option maxHeartbeats 2000000 in
theorem szTrackS (ps : List TrackE) (v : Value) (left : Int) (w : World) (hv : TrackAt w v ps) (hl : 0 ≤ left) (hm : left ≤ 1048576) (hn : ps.length ≤ 9223372036854775807) (hs : TrackFit ps) :
    Calls Try.prog 60 #[v, .int .i64 left] w fun e w' => e = .returned (.int .i64 (leftOf left (trackCost ps))) ∧ Kept w w' := by
  obtain ⟨ao, cap, hsl⟩ := row_nil hv.1
  subst hsl
  by_cases hc : left < (ps.length : Int)
  · go_enter Try.func60, Try.ntmps60
    go_wp2
    go_ret
    exact ⟨ret_int (leftOf_no (by unfold trackCost; omega)).symm, But.refl _ _ _⟩
  · have hc' : (ps.length : Int) ≤ left := by omega
    have hc2 : decide (left - (ps.length : Int) < 0) = false := by simp; omega
    go_enter Try.func60, Try.ntmps60
    go_wp2
    go_loopw [1, 5] (fun l i wr => ∃ (k : Nat) (c : Int), k ≤ ps.length ∧ i = .int .i64 k ∧ l = .int .i64 c ∧ c = left - ps.length - trackSum (ps.take k) ∧ 0 ≤ c ∧ Kept w wr) (fun l i _ => ps.length - (intOf i).toNat)
    case atStart => exact ⟨0, _, by omega, rfl, rfl, by simp [trackSum], by omega, But.refl _ _ _⟩
    case round =>
      obtain ⟨k, c, hk, rfl, rfl, hcv, h0, hkp⟩ := hrel
      have HC : Hid (c = left - ps.length - trackSum (ps.take k)) := hcv
      clear hcv
      by_cases hlt : k < ps.length
      · obtain ⟨p, hp⟩ : ∃ p, ps[k]? = some p := ⟨_, List.getElem?_eq_getElem hlt⟩
        obtain ⟨b, o, cap', e, c0, c1, hpa⟩ := track_get (hv.kept hkp) hp
        cases e
        have hcm : c ≤ 1048576 := by have := HC.out; omega
        have hps := hs p (List.mem_of_getElem? hp)
        have hsn := trackSum_snoc (ps.take k) p
        rw [← take_snoc hp] at hsn
        have hst := trackSum_take ps (k + 1)
        have HS : Hid (trackSum (ps.take (k + 1)) = trackSum (ps.take k) + (p.1.size + p.2.2.length) ∧ trackSum (ps.take (k + 1)) ≤ trackSum ps) := ⟨hsn, hst⟩
        clear hsn hst
        obtain ⟨y0, ⟨y1, l⟩⟩ := p
        dsimp only at hps hpa c0 c1
        obtain ⟨ao3, cap3, hsl3⟩ := row_nil hpa
        subst hsl3
        have HP : Hid (KeyAt wr (.slice ao3 l.length cap3) l) := hpa
        clear hpa
        obtain ⟨M, hM⟩ : ∃ M : Nat, y0.size + l.length = M := ⟨_, rfl⟩
        have HM : Hid (y0.size + l.length = M) := hM
        clear hM
        by_cases hle : (M : Int) ≤ c
        · have hd : decide (c - (M : Int) < 0) = false := by simp; omega
          go_wp2_with (go_at_call 87; refine (szTrack _ _ _ _ _ HP.out h0 hcm hps.1 hps.2).mono ?_; rw [HM.out, leftOf_yes hle]; rintro e w' ⟨rfl, hk2⟩)
          have hM := HM.out
          have hS' := HS.out
          exact ⟨⟨k + 1, _, hlt, by go_num, rfl, by have := HC.out; omega, by omega, hkp.trans hk2⟩, by simp [intOf]; omega⟩
        · go_wp2_with (go_at_call 87; refine (szTrack _ _ _ _ _ HP.out h0 hcm hps.1 hps.2).mono ?_; rw [HM.out, leftOf_no (by omega)]; rintro e w' ⟨rfl, hk2⟩)
          have hM := HM.out
          have hS' := HS.out
          go_ret
          exact ⟨ret_int (leftOf_no (by have := HC.out; unfold trackCost; omega)).symm, hkp.trans hk2⟩
      · have hke : k = ps.length := by omega
        subst hke
        go_wp2
        go_ret
        have := HC.out
        rw [List.take_length] at this
        exact ⟨ret_int (by rw [leftOf_yes (by unfold trackCost; omega)]; unfold trackCost; omega), hkp⟩

set_option maxHeartbeats 2000000 in
theorem toTrack (f0 : ByteArray) (f1 : Value) (l : List KeyD) (w : World) (hv : KeyAt w f1 l) (hl : l.length ≤ 1048576) :
    Calls Try.prog 91 #[.agg #[.string f0, f1]] w fun e w' => ∃ v', e = .returned (.agg #[.string f0, v']) ∧ KeyO w' (w.heap.size + 1) w'.heap.size v' l ∧ Kept w w' := by
  obtain ⟨ao, cap, hsl⟩ := row_nil hv
  subst hsl
  go_enter Try.func91, Try.ntmps91
  go_wp2_with (go_at_call 23; refine (toKeyS l _ _ (hv.kept ((((But.refl _ _ _).alloc _).alloc _).alloc _)) hl).mono ?_
               rintro e w' ⟨v', rfl, ho, hk⟩
               obtain ⟨ao', cap', hf, _⟩ := own_form ho.1
               subst hf
               have K : Kept w w' := ((((But.refl _ _ _).alloc _).alloc _).alloc _).trans hk
               have L0 := ((((Loc.new _ [.string f0, .slice ao l.length cap] 121).alloc _).alloc _).kept hk)
               have L1 := (((Loc.new _ [.string ByteArray.empty, .slice none 0 0] 95).alloc _).kept hk)
               have L2 := (Loc.new _ [.string f0, .slice none 0 0] 95).kept hk
               simp only [World.size_alloc] at L0 L1 L2 ho
               have f0_0 := L0.cell 0 rfl
               have f0_1 := L1.cell 0 rfl
               have f0_2 := L2.cell 0 rfl
               have g0_1 := L1.frozen 0
               have g0_2 := L2.frozen 0
               have f1_0 := L0.cell 1 rfl
               have f1_1 := L1.cell 1 rfl
               have f1_2 := L2.cell 1 rfl
               have g1_1 := L1.frozen 1
               have g1_2 := L2.frozen 1
               have ho : Hid _ := ho
               have hksz := hk.size
               simp at hksz
               have K : Hid _ := K
               clear hk L0 L1 L2)
  have B : But w.heap.size (w.heap.size + 3) w' (((w'.setCell ⟨w.heap.size + 1 + 1, 1, none⟩ ((.slice ao' l.length cap'))).setCell ⟨w.heap.size + 1, 0, none⟩ (.string f0)).setCell ⟨w.heap.size + 1, 1, none⟩ ((.slice ao' l.length cap'))) := (((But.refl _ _ _).setCell (by simp; try omega) (by simp; try omega) _).setCell (by simp; try omega) (by simp; try omega) _).setCell (by simp; try omega) (by simp; try omega) _
  refine bodyPost_ret (v := .agg #[.string f0, (.slice ao' l.length cap')]) (by simp [results, Try.results91, go_sem, *]) rfl ?_
  exact ⟨_, rfl, ((ho.out.but B (by omega)).mono (by omega) B.size).low, (K.out.onto B (Nat.le_refl _))⟩

theorem info95 : (Try.prog.info? 95).map (fun i => (i.zero, i.size, i.bytes)) = some (some (.agg #[.string ByteArray.empty, .slice none 0 0]), 2, 40) := by kernel_rfl
/-- Rows whose lists lie apart from the row's own block, and from one another. -/
structure TrackR (w : World) (g n : Nat) (ys : List TrackE) : Prop where
  row : RowO w g (g + 1) 95 2 (.slice (some ⟨g, 0, none⟩) n n) ys.length (ys.flatMap trackC)
  inn : ∀ (i : Nat) (y : TrackE), ys[i]? = some y → KeyO w (g + 1) w.heap.size y.2.1 y.2.2
  apart : ∀ (i j : Nat) (p p' : TrackE), i ≠ j → ys[i]? = some p → ys[j]? = some p' → Ap p.2.1 p'.2.1
theorem TrackR.kept {w w' : World} {g n : Nat} {ys : List TrackE} (h : TrackR w g n ys) (k : Kept w w') : TrackR w' g n ys := ⟨RowO.kept h.row k, fun i r hr => ((h.inn i r hr).kept k).mono (Nat.le_refl _) k.size, h.apart⟩
theorem TrackR.cells {w : World} {g n : Nat} {ys : List TrackE} (h : TrackR w g n ys) {i : Nat} {p : TrackE} (hp : ys[i]? = some p) :
    w.cell? ⟨g, i * 2, none⟩ = some (.string p.1) ∧ w.cell? ⟨g, i * 2 + 1, none⟩ = some (p.2.1) ∧ ∀ o, w.frozen? ⟨g, o, none⟩ = false := by
  obtain ⟨hc, hf⟩ := own_get 2 trackC trackC_len (by omega) h.row hp
  exact ⟨hc 0 _ rfl, hc 1 _ rfl, hf⟩

theorem TrackR.setRow {w : World} {g n : Nat} {ys : List TrackE} (h : TrackR w g n ys) (hn : n = ys.length) {i : Nat} {p : TrackE} (hp : ys[i]? = some p) (q : TrackE) :
    RowO ((w.setCell ⟨g, i * 2, none⟩ (.string q.1)).setCell ⟨g, i * 2 + 1, none⟩ (q.2.1)) g (g + 1) 95 2 (.slice (some ⟨g, 0, none⟩) n n) (ys.set i q).length ((ys.set i q).flatMap trackC) := by
  subst hn
  have hi' : i < ys.length := (List.getElem?_eq_some_iff.1 hp).1
  have r0 := RowO.set (h.row) (2 * i + 0) (.string q.1)
  rw [flat_set 2 trackC trackC_len ys i 0 p (q.1, p.2) (.string q.1) hp (by omega) rfl] at r0
  have g0 : (ys.set i (q.1, p.2))[i]? = some (q.1, p.2) := by simp [hi']
  have r1 := RowO.set (r0) (2 * i + 1) (q.2.1)
  rw [flat_set 2 trackC trackC_len (ys.set i (q.1, p.2)) i 1 (q.1, p.2) q (q.2.1) g0 (by omega) rfl] at r1
  simp only [List.set_set] at r1
  rw [Nat.mul_comm i 2, List.length_set]
  exact r1

set_option maxHeartbeats 4000000 in
theorem toTrackS (ps : List TrackE) (v : Value) (w : World) (hv : TrackAt w v ps) (hl : ps.length ≤ 1048576) (hp : ∀ p ∈ ps, p.2.2.length ≤ 1048576) :
    Calls Try.prog 63 #[v] w fun e w' => ∃ v' ys, e = .returned v' ∧ ys.map stripTrack = ps.map stripTrack ∧ TrackO w' w.heap.size w'.heap.size v' ys ∧ Kept w w' := by
  obtain ⟨ao, cap, hsl⟩ := row_nil hv.1
  subst hsl
  obtain ⟨i0, hi, hz0, hz1, hz2⟩ := info_parts info95
  have hmk : (Instr.makeSlice 41 (.int .i64 (ps.length : Int)) (.int .i64 (ps.length : Int))).run Try.prog w = .ok (.slice (some ⟨w.heap.size, 0, none⟩) ps.length ps.length) (w.alloc (.cells (madeCells #[.string ByteArray.empty, .slice none 0 0] (ps.length * 2)) 95)) := by
    have := run_make (P := Try.prog) w 41 95 i0 _ Try.underlying41 hi hz0 .i64 .i64 (ps.length : Int) (ps.length : Int) (by omega) (by omega) (by rw [hz2]; omega) (by omega)
    rw [this, hz1]
    simp [Value.cells]
  have hm := row_made w w.heap.size 95 #[.string ByteArray.empty, .slice none 0 0] 2 (by omega) trackC track0 trackC_len rfl ps.length (Nat.le_refl _) (by unfold maxLen; omega)
  clear hi hz0 hz1 hz2
  go_enter Try.func63, Try.ntmps63
  go_wp2
  clear hmk
  go_loopw [4] (fun i wr => ∃ (k : Nat) (ys : List TrackE), k ≤ ps.length ∧ i = .int .i64 k ∧ ys.length = ps.length ∧ ys.map stripTrack = (ps.take k ++ List.replicate (ps.length - k) track0).map stripTrack ∧ TrackR wr w.heap.size ps.length ys ∧ Kept w wr) (fun i _ => ps.length - (intOf i).toNat)
  case atStart =>
    refine ⟨0, List.replicate ps.length track0, by omega, rfl, by simp, by simp, ⟨by simpa using hm, fun i y hy => ?_, fun i j y y' hij hy hy' => ?_⟩, (But.refl _ _ _).alloc _⟩
    · obtain rfl : y = track0 := List.eq_of_mem_replicate (List.mem_of_getElem? hy)
      exact ⟨World.ownsRow_nil _ _ _ _, fun g hg => by simp [track0, Value.ownBlock] at hg⟩
    · obtain rfl : y = track0 := List.eq_of_mem_replicate (List.mem_of_getElem? hy)
      exact fun g hg => by simp [track0, Value.ownBlock] at hg
  case round =>
    obtain ⟨k, ys, hk, rfl, hyl, hys, ho, hkp⟩ := hrel
    have HY : Hid (ys.length = ps.length ∧ ys.map stripTrack = (ps.take k ++ List.replicate (ps.length - k) track0).map stripTrack) := ⟨hyl, hys⟩
    clear hm
    by_cases hlt : k < ps.length
    · obtain ⟨p, hpk⟩ : ∃ p, ps[k]? = some p := ⟨_, List.getElem?_eq_getElem hlt⟩
      obtain ⟨y, hy⟩ : ∃ y, ys[k]? = some y := ⟨_, List.getElem?_eq_getElem (by omega)⟩
      obtain ⟨b, o, cap', e, c0, c1, hpa⟩ := track_get (hv.kept hkp) hpk
      cases e
      have hpl := hp p (List.mem_of_getElem? hpk)
      have HB : Hid ((ps.take k ++ List.replicate (ps.length - k) track0).map stripTrack = _ ∧ stripTrack p = stripTrack p) := ⟨rfl, rfl⟩
      clear HB
      have HPK : Hid (ps[k]? = some p) := hpk
      clear hyl hys hpk
      obtain ⟨y0, ⟨y1, l⟩⟩ := p
      dsimp only at hpa hpl c0 c1
      obtain ⟨ao3, cap3, hsl3⟩ := row_nil hpa
      subst hsl3
      have hsz0 := hkp.size
      have hlt1 := own_lt ho.row.1 (g := w.heap.size) rfl
      go_wp2_with (go_at_call 91; refine (toTrack _ _ _ _ hpa hpl).mono ?_
                   rintro e w' ⟨pv, rfl, hpo, hk2⟩
                   obtain ⟨ao2, cap2, hf, _⟩ := own_form hpo.1
                   subst hf
                   have HAP : Hid (∀ (i : Nat) (r : TrackE), ys[i]? = some r → Ap r.2.1 (.slice ao2 l.length cap2)) := fun i r hr => ap_low ((ho.inn i r hr).kept hk2) hpo (.inl (by omega))
                   have ho2 := ho.kept hk2
                   obtain ⟨d0, d1, dz⟩ := ho2.cells hy
                   have dz0 := dz (k * 2)
                   have dz1 := dz (k * 2 + 1)
                   have HO : Hid _ := ho2
                   have hs2 := hk2.size
                   have HPO : Hid _ := hpo
                   clear dz ho ho2 hpo)
      have HR := TrackR.setRow HO.out HY.out.1.symm hy (y0, (.slice ao2 l.length cap2, l))
      have B : But w.heap.size (w.heap.size + 1) w' ((w'.setCell ⟨w.heap.size, k * 2, none⟩ (.string y0)).setCell ⟨w.heap.size, k * 2 + 1, none⟩ (.slice ao2 l.length cap2)) := ((But.refl _ _ _).setCell (by simp; try omega) (by simp; try omega) _).setCell (by simp; try omega) (by simp; try omega) _
      refine ⟨⟨k + 1, ys.set k (y0, (.slice ao2 l.length cap2, l)), hlt, by go_num, by simp [HY.out.1], ?_, ⟨HR, fun i z hz => ?_, fun i j z z' hij hz hz' => ?_⟩, (hkp.trans hk2).onto B (Nat.le_refl _)⟩, by simp [intOf]; omega⟩
      · rw [List.map_set, HY.out.2, ← fill_set ps track0 HPK.out, List.map_set]
        rfl
      · rcases get_set hz with ⟨_, rfl⟩ | ⟨_, hz⟩
        · exact (HPO.out.but B (by omega)).mono (by omega) B.size
        · exact ((HO.out.inn i z hz).but B (by omega)).mono (Nat.le_refl _) B.size
      · rcases get_set hz with ⟨hik, rfl⟩ | ⟨hik, hz⟩
        · rcases get_set hz' with ⟨hjk, rfl⟩ | ⟨_, hz'⟩
          · exact absurd (hik.trans hjk.symm) hij
          · exact (HAP.out j z' hz').symm
        · rcases get_set hz' with ⟨_, rfl⟩ | ⟨_, hz'⟩
          · exact HAP.out i z hz
          · exact HO.out.apart i j z z' hij hz hz'
    · have hke : k = ps.length := by omega
      subst hke
      have hsz := hkp.size
      go_wp2
      go_ret
      have hs := own_lt ho.row.1 (g := w.heap.size) rfl
      refine ⟨_, ys, rfl, ?_, ⟨?_, fun i y hy => (ho.inn i y hy).mono (by omega) (Nat.le_refl _), ho.apart⟩, hkp⟩
      · rw [HY.out.2]
        simp
      · have := RowO.low ho.row
        rw [HY.out.1] at this ⊢
        exact this

end Go.Proofs.Ytpnplfngglfpoaa
