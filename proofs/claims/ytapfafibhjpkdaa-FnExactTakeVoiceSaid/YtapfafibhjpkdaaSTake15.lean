/-
  What TakeVoice answers in the specification.
-/
import Derived.Test.YtapfafibhjpkdaaVPut15
import Derived.Test.YtapfafibhjpkdaaVOwnS15
import Derived.Test.YtapfafibhjpkdaaVGood15
import Derived.Test.YtapfafibhjpkdaaQuiet
namespace Go.Proofs.Ytapfafibhjpkdaa
open Go.ChangeShapes Go.WideShapes Go.ChangeAt Go.RowKit

set_option maxRecDepth 100000
set_option linter.unusedVariables false

set_option maxHeartbeats 8000000 in
theorem stake_bad (ds : List VoiceD) (v : Value) (ao : Option Addr) (cap : Nat) (l : List Int) (a : Int) (lp : Bool) (lf rt rk : Int) (w : World) (hv : VoicesAt w v ds) (hl : NumAt w (.slice ao l.length cap) l) (hn : voicesCost ds ≤ 1048576) (hll : l.length ≤ 1048576) (hb : ¬ (VoicesP ds ∧ VoiceP l a lf rt rk)) :
    Calls Try.prog 24 #[v, .agg #[.slice ao l.length cap, .int .i64 a, .bool lp, .int .i64 lf, .int .i64 rt, .int .i64 rk]] w fun e w' => e = .returned (.tuple #[.slice none 0 0, .int .i64 0, .bool false]) ∧ Kept w w' := by
  cases q1 : dec (VoicesP ds) with
  | false =>
    obtain ⟨aq, cq, hsl⟩ := hv.form
    subst hsl
    have hcs : Hid (∀ d ∈ ds, d.1.length ≤ 1048576) := fun d hd => by
      have := voices_one hd
      unfold voicesOne at this
      omega
    have hln : ds.length ≤ 1048576 := by unfold voicesCost at hn; omega
    have K0 : Kept w (w.alloc (.cells #[.slice ao l.length cap, .int .i64 a, .bool lp, .int .i64 lf, .int .i64 rt, .int .i64 rk] 27)) := (But.refl _ _ _).alloc _
    go_enter Try.func24, Try.ntmps24
    repeat (first | go_values | go_skip | go_guarded | go_step | go_upon)
    go_at_call 45
    refine (svoices ds _ _ (hv.kept K0) hn).mono ?_
    rintro e w1 ⟨rfl, k1⟩
    rw [q1]
    have K1 := K0.trans k1
    have L1 := (Loc.new w [.slice ao l.length cap, .int .i64 a, .bool lp, .int .i64 lf, .int .i64 rt, .int .i64 rk] 27).kept k1
    have p0 := L1.cell 0 rfl
    have p1 := L1.cell 1 rfl
    have p2 := L1.cell 2 rfl
    have p3 := L1.cell 3 rfl
    have p4 := L1.cell 4 rfl
    have p5 := L1.cell 5 rfl
    dsimp only
    repeat (first | go_values | go_skip | go_guarded | go_step | go_upon)
    go_returns
    exact ⟨rfl, K1⟩
  | true =>
    have q2 : dec (VoiceP l a lf rt rk) = false := dec_no fun h => hb ⟨of_dec q1, h⟩
    obtain ⟨aq, cq, hsl⟩ := hv.form
    subst hsl
    have hcs : Hid (∀ d ∈ ds, d.1.length ≤ 1048576) := fun d hd => by
      have := voices_one hd
      unfold voicesOne at this
      omega
    have hln : ds.length ≤ 1048576 := by unfold voicesCost at hn; omega
    have K0 : Kept w (w.alloc (.cells #[.slice ao l.length cap, .int .i64 a, .bool lp, .int .i64 lf, .int .i64 rt, .int .i64 rk] 27)) := (But.refl _ _ _).alloc _
    go_enter Try.func24, Try.ntmps24
    repeat (first | go_values | go_skip | go_guarded | go_step | go_upon)
    go_at_call 45
    refine (svoices ds _ _ (hv.kept K0) hn).mono ?_
    rintro e w1 ⟨rfl, k1⟩
    rw [q1]
    have K1 := K0.trans k1
    have L1 := (Loc.new w [.slice ao l.length cap, .int .i64 a, .bool lp, .int .i64 lf, .int .i64 rt, .int .i64 rk] 27).kept k1
    have p0 := L1.cell 0 rfl
    have p1 := L1.cell 1 rfl
    have p2 := L1.cell 2 rfl
    have p3 := L1.cell 3 rfl
    have p4 := L1.cell 4 rfl
    have p5 := L1.cell 5 rfl
    dsimp only
    repeat (first | go_values | go_skip | go_guarded | go_step | go_upon)
    go_at_call 10
    refine (sgoodV _ l a lp lf rt rk _ (hl.kept K1) hll).mono ?_
    rintro e w2 ⟨rfl, k2⟩
    rw [q2]
    have K2 := K1.trans k2
    dsimp only
    repeat (first | go_values | go_skip | go_guarded | go_step | go_upon)
    go_returns
    exact ⟨rfl, K2⟩

set_option maxHeartbeats 8000000 in
theorem stake (ds : List VoiceD) (v : Value) (ao : Option Addr) (cap : Nat) (l : List Int) (a : Int) (lp : Bool) (lf rt rk : Int) (w : World) (hv : VoicesAt w v ds) (hl : NumAt w (.slice ao l.length cap) l) (hn : voicesCost ds ≤ 1048576) (hll : l.length ≤ 1048576) (hP : VoicesP ds) (hQ : VoiceP l a lf rt rk) :
    Calls Try.prog 24 #[v, .agg #[.slice ao l.length cap, .int .i64 a, .bool lp, .int .i64 lf, .int .i64 rt, .int .i64 rk]] w fun e w' => ∃ v', e = .returned (.tuple #[v', .int .i64 (takeR ds (l, a, lp, lf, rt, rk)).2, .bool true]) ∧ VoicesO w' w.heap.size w'.heap.size v' (takeR ds (l, a, lp, lf, rt, rk)).1 ∧ Kept w w' := by
  have q1 := dec_yes hP
  have q2 := dec_yes hQ
  obtain ⟨aq, cq, hsl⟩ := hv.form
  subst hsl
  have hcs : Hid (∀ d ∈ ds, d.1.length ≤ 1048576) := fun d hd => by
    have := voices_one hd
    unfold voicesOne at this
    omega
  have hln : ds.length ≤ 1048576 := by unfold voicesCost at hn; omega
  have K0 : Kept w (w.alloc (.cells #[.slice ao l.length cap, .int .i64 a, .bool lp, .int .i64 lf, .int .i64 rt, .int .i64 rk] 27)) := (But.refl _ _ _).alloc _
  go_enter Try.func24, Try.ntmps24
  repeat (first | go_values | go_skip | go_guarded | go_step | go_upon)
  go_at_call 45
  refine (svoices ds _ _ (hv.kept K0) hn).mono ?_
  rintro e w1 ⟨rfl, k1⟩
  rw [q1]
  have K1 := K0.trans k1
  have L1 := (Loc.new w [.slice ao l.length cap, .int .i64 a, .bool lp, .int .i64 lf, .int .i64 rt, .int .i64 rk] 27).kept k1
  have p0 := L1.cell 0 rfl
  have p1 := L1.cell 1 rfl
  have p2 := L1.cell 2 rfl
  have p3 := L1.cell 3 rfl
  have p4 := L1.cell 4 rfl
  have p5 := L1.cell 5 rfl
  dsimp only
  repeat (first | go_values | go_skip | go_guarded | go_step | go_upon)
  go_at_call 10
  refine (sgoodV _ l a lp lf rt rk _ (hl.kept K1) hll).mono ?_
  rintro e w2 ⟨rfl, k2⟩
  rw [q2]
  have K2 := K1.trans k2
  have L2 := L1.kept k2
  have hv := hv.kept K2
  have hl := hl.kept K2
  have HW2 : Hid (Kept w w2 ∧ Loc w2 w.heap.size [.slice ao l.length cap, .int .i64 a, .bool lp, .int .i64 lf, .int .i64 rt, .int .i64 rk]) := ⟨K2, L2⟩
  have hw2 := L2.lt
  clear k1 k2 K0 K1 K2 L1 L2 p0 p1 p2 p3 p4 p5
  have HL2 : Hid (NumAt w2 (.slice ao l.length cap) l) := hl
  have HLL : Hid (l.length ≤ 1048576) := hll
  clear hl hll
  obtain ⟨i0, hi0, hz0, hz1, hz2⟩ := info_parts infoV
  dsimp only
  repeat (first | go_values | go_skip | go_guarded | go_step | go_upon)
  go_loopw [7, 23] (fun e i wr => ∃ (j : Nat) (ts : List VoiceE) (ao' : Option Addr) (c' : Nat), j ≤ ds.length ∧ i = .int .i64 j ∧ ts.map stripVoice = ds.take j ∧ e = .slice ao' j c' ∧ VoiceO wr w2.heap.size wr.heap.size (.slice ao' j c') ts ∧ Kept w2 wr) (fun e i _ => ds.length - (intOf i).toNat)
  case atStart => exact ⟨0, [], none, 0, by omega, rfl, by simp, rfl, voice_nil _ _ _, But.refl _ _ _⟩
  case round =>
    obtain ⟨j, ts, ao', c', hk, rfl, hts, rfl, hown, hkp⟩ := hrel
    have htl : ts.length = j := by
      have := congrArg List.length hts
      simp at this
      omega
    have HO : Hid (VoiceO wr w2.heap.size wr.heap.size (.slice ao' j c') ts) := hown
    have HK : Hid (Kept w2 wr) := hkp
    have HTS : Hid (ts.map stripVoice = ds.take j ∧ ts.length = j) := ⟨hts, htl⟩
    have hwz := hkp.size
    clear hown hts htl
    by_cases hlt : j < ds.length
    · obtain ⟨d, hd⟩ : ∃ b, ds[j]? = some b := ⟨_, List.getElem?_eq_getElem hlt⟩
      obtain ⟨b, o, cap', s, ee, c0, c1, c2, c3, c4, c5, hka⟩ := (hv.kept hkp).get hd
      cases ee
      have hsz := hcs.out d (List.mem_of_getElem? hd)
      have HP : Hid (ds.take (j + 1) = ds.take j ++ [d]) := take_snoc hd
      obtain ⟨l, a, lp, lf, rt, rk⟩ := d
      dsimp only at c0 c1 c2 c3 c4 c5 hka hsz
      obtain ⟨a3, p3, hsl⟩ := row_nil hka
      subst hsl
      have HN : Hid (NumAt wr (.slice a3 l.length p3) l) := hka
      clear hd hka hkp
      repeat (first | go_values | go_skip | go_guarded | go_step | go_upon)
      go_at_call 46
      refine (sownV a3 p3 l a lp lf rt rk _ (HN.out.kept ((But.refl _ _ _).alloc _)) hsz).mono ?_
      rintro e w3 ⟨a4, p4, rfl, hno, k3⟩
      have k3' : Kept wr w3 := ((But.refl _ _ _).alloc _).trans k3
      have HK3 : Hid (Kept w2 w3) := HK.out.trans k3'
      have s3 := k3'.size
      simp only [World.size_alloc] at hno
      have hO3 := HO.out.kept k3'
      have HAP : Hid (∀ (i : Nat) (p : VoiceE), ts[i]? = some p → Ap p.1.1 (.slice a4 l.length p4)) := fun i p hp => ap_low (hO3.inn i p hp) hno (.inl (by omega))
      have HO3 : Hid (VoiceO w3 w2.heap.size w3.heap.size (.slice ao' j c') ts) := hO3.mono (Nat.le_refl _) s3
      have HN3 : Hid (NumO w3 w2.heap.size w3.heap.size (.slice a4 l.length p4) l) := hno.mono (by omega) (Nat.le_refl _)
      clear hO3 hno k3 k3' HO HK HN
      dsimp only
      repeat (first | (at_builtin; refine forgetL (fun w' => w' = _) rfl ?_) | go_values | go_skip | go_guarded | go_step | go_upon)
      intro W7 hW7
      have K7 : Kept w3 W7 := by rw [hW7]; exact (But.refl _ _ _).alloc _
      have N7 : Loc W7 w3.heap.size (voiceC ((.slice a4 l.length p4, l), a, lp, lf, rt, rk)) := by rw [hW7]; exact Loc.new w3 _ _
      have s7 := K7.size
      have hO7 := (HO3.out.kept K7).mono (Nat.le_refl _) s7
      have hN7 := (HN3.out.kept K7).mono (Nat.le_refl _) s7
      clear hW7
      refine wpList_append_own _ rfl _ _ 35 rfl w2.heap.size 27 i0 (.agg #[.slice none 0 0, .int .i64 0, .bool false, .int .i64 0, .int .i64 0, .int .i64 0]) 6 64 Try.underlying35 hi0 hz0 hz1 hz2 rfl (by decide) (.slice ao' j c') j (ts.flatMap voiceC) rfl (by have := hO7.row.1; rw [HTS.out.2] at this; exact this) ⟨w3.heap.size, 0, none⟩ 1 1 (voiceC ((.slice a4 l.length p4, l), a, lp, lf, rt, rk)) rfl rfl (news_voice N7) (one_voice _ _ _ _ _ _ _ _ _) (by unfold maxLen; omega) (by omega) (by omega) ?_
      intro v' w8 hown' hgrow _
      obtain ⟨hV8, hk8⟩ := app_voice hO7 HTS.out.2 hN7 HAP.out hown' hgrow
      obtain ⟨ao5, cap5, hf5, _⟩ := own_form hown'
      subst hf5
      have HV8 : Hid (VoiceO w8 w2.heap.size w8.heap.size (.slice ao5 (j + 1) cap5) (ts ++ [((.slice a4 l.length p4, l), a, lp, lf, rt, rk)])) := hV8
      have HK8 : Hid (Kept w2 w8) := hk8 w2 (HK3.out.trans K7) (Nat.le_refl _)
      clear hgrow hown' hV8 hk8 hO7 hN7 N7 K7 HO3 HN3 HK3
      dsimp only
      repeat (first | go_values | go_skip | go_guarded | go_step | go_upon)
      refine ⟨⟨j + 1, ts ++ [((.slice a4 l.length p4, l), a, lp, lf, rt, rk)], ao5, cap5, hlt, by go_num, ?_, rfl, HV8.out, HK8.out⟩, by simp [intOf]; omega⟩
      rw [HP.out, List.map_append, HTS.out.1]
      rfl
    · have hke : j = ds.length := by omega
      subst hke
      have hst : ts.map stripVoice = ds := by rw [HTS.out.1, List.take_length]
      have hds8 : ds.length ≤ 8 := hP.1
      have HTS2 : Hid (ts.length = ds.length) := HTS.out.2
      have LB := HW2.out.2.kept HK.out
      have p0 := LB.cell 0 rfl
      have p1 := LB.cell 1 rfl
      have p2 := LB.cell 2 rfl
      have p3 := LB.cell 3 rfl
      have p4 := LB.cell 4 rfl
      have p5 := LB.cell 5 rfl
      have hll := HLL.out
      have HLW : Hid (NumAt wr (.slice ao l.length cap) l) := HL2.out.kept HK.out
      have HB : Hid (Loc wr w.heap.size [.slice ao l.length cap, .int .i64 a, .bool lp, .int .i64 lf, .int .i64 rt, .int .i64 rk]) := LB
      clear hkp LB
      by_cases h8 : ds.length < 8
      · have d8 : decide ((ds.length : Int) < 8) = true := by simp; omega
        repeat (first | go_values | go_skip | go_guarded | go_step | go_upon)
        go_at_call 46
        refine (sownV ao cap l a lp lf rt rk _ HLW.out hll).mono ?_
        rintro e w3 ⟨a4, p4', rfl, hno, k3⟩
        have s3 := k3.size
        have hO3 := HO.out.kept k3
        have HAP : Hid (∀ (i : Nat) (p : VoiceE), ts[i]? = some p → Ap p.1.1 (.slice a4 l.length p4')) := fun i p hp => ap_low (hO3.inn i p hp) hno (.inl (by omega))
        have HO3 : Hid (VoiceO w3 w2.heap.size w3.heap.size (.slice ao' ds.length c') ts) := hO3.mono (Nat.le_refl _) s3
        have HN3 : Hid (NumO w3 w2.heap.size w3.heap.size (.slice a4 l.length p4') l) := hno.mono (by omega) (Nat.le_refl _)
        have HK3 : Hid (Kept w2 w3) := HK.out.trans k3
        clear hO3 hno k3 p0 p1 p2 p3 p4 p5
        dsimp only
        repeat (first | (at_builtin; refine forgetL (fun w' => w' = _) rfl ?_) | go_values | go_skip | go_guarded | go_step | go_upon)
        intro W7 hW7
        have K7 : Kept w3 W7 := by rw [hW7]; exact (But.refl _ _ _).alloc _
        have N7 : Loc W7 w3.heap.size (voiceC ((.slice a4 l.length p4', l), a, lp, lf, rt, rk)) := by rw [hW7]; exact Loc.new w3 _ _
        have s7 := K7.size
        have hO7 := (HO3.out.kept K7).mono (Nat.le_refl _) s7
        have hN7 := (HN3.out.kept K7).mono (Nat.le_refl _) s7
        clear hW7
        refine wpList_append_own _ rfl _ _ 35 rfl w2.heap.size 27 i0 (.agg #[.slice none 0 0, .int .i64 0, .bool false, .int .i64 0, .int .i64 0, .int .i64 0]) 6 64 Try.underlying35 hi0 hz0 hz1 hz2 rfl (by decide) (.slice ao' ds.length c') ds.length (ts.flatMap voiceC) rfl (by have := hO7.row.1; rw [HTS.out.2] at this; exact this) ⟨w3.heap.size, 0, none⟩ 1 1 (voiceC ((.slice a4 l.length p4', l), a, lp, lf, rt, rk)) rfl rfl (news_voice N7) (one_voice _ _ _ _ _ _ _ _ _) (by unfold maxLen; omega) (by omega) (by omega) ?_
        intro v' w8 hown' hgrow _
        obtain ⟨hV8, hk8⟩ := app_voice hO7 HTS.out.2 hN7 HAP.out hown' hgrow
        obtain ⟨ao5, cap5, hf5, _⟩ := own_form hown'
        subst hf5
        have HV8 : Hid (VoiceO w8 w2.heap.size w8.heap.size (.slice ao5 (ds.length + 1) cap5) (ts ++ [((.slice a4 l.length p4', l), a, lp, lf, rt, rk)])) := hV8
        have HK8 : Hid (Kept w2 w8) := hk8 w2 (HK3.out.trans K7) (Nat.le_refl _)
        clear hgrow hown' hV8 hk8 hO7 hN7 N7 K7 HO3 HN3 HK3
        dsimp only
        repeat (first | go_values | go_skip | go_guarded | go_step | go_upon)
        go_returns
        have hT : takeR ds (l, a, lp, lf, rt, rk) = (ds ++ [(l, a, lp, lf, rt, rk)], -1) := by rw [takeR, if_pos h8]
        rw [hT]
        refine ⟨.slice ao5 (ds.length + 1) cap5, rfl, ⟨ts ++ [((.slice a4 l.length p4', l), a, lp, lf, rt, rk)], HV8.out.mono (by omega) (Nat.le_refl _), ?_⟩, HW2.out.1.trans HK8.out⟩
        rw [List.map_append, hst]
        rfl
      · have d8 : decide ((ds.length : Int) < 8) = false := by simp; omega
        have hAT : VoicesAt wr (.slice ao' ds.length c') ds := ⟨ts, HO.out.at, hst⟩
        clear p0 p1 p2 p3 p4 p5
        repeat (first | go_values | go_skip | go_guarded | go_step | go_upon)
        clear d8 hwz hln
        go_loopw [10, 43] (fun e i wz => ∃ (k : Nat), k ≤ ds.length ∧ i = .int .i64 k ∧ e = .int .i64 ((lst ds k : Nat) : Int) ∧ Kept wr wz) (fun e i _ => ds.length - (intOf i).toNat)
        case atStart => exact ⟨0, by omega, rfl, rfl, But.refl _ _ _⟩
        case round =>
          rename World => wz
          obtain ⟨k, hk, rfl, rfl, hkz⟩ := hrel
          by_cases hlt : k < ds.length
          · obtain ⟨d, hd⟩ : ∃ p, ds[k]? = some p := ⟨_, List.getElem?_eq_getElem hlt⟩
            have hmk : lst ds k < ds.length := by
              rcases Nat.eq_zero_or_pos k with h0 | h0
              · rw [h0]; show 0 < ds.length; omega
              · have := lst_lt ds k h0; omega
            obtain ⟨m, hm⟩ : ∃ m, lst ds k = m := ⟨_, rfl⟩
            rw [hm] at hmk ⊢
            obtain ⟨dm, hdm⟩ : ∃ p, ds[m]? = some p := ⟨_, List.getElem?_eq_getElem hmk⟩
            obtain ⟨b, o, cap', s, ee, c0, c1, c2, c3, c4, c5, hka⟩ := (hAT.kept hkz).get hd
            obtain ⟨b', o', cap'', s', ee', e0, e1, e2, e3, e4, e5, _⟩ := (hAT.kept hkz).get hdm
            cases ee
            cases ee'
            have hr1 := rk_at hd
            have hr2 := rk_at hdm
            have HR : Hid (lst ds (k + 1) = if rkN ds k < rkN ds m then k else m) := by show _ = _; rw [lst, hm]
            rw [hr1, hr2] at HR
            obtain ⟨l, a, lp, lf, rt, rk⟩ := d
            obtain ⟨l', a', lp', lf', rt', rk'⟩ := dm
            dsimp only at c0 c1 c2 c3 c4 c5 e5 HR
            obtain ⟨a3, p3, hsl⟩ := row_nil hka
            subst hsl
            have HKZ : Hid (Kept wr wz) := hkz
            have hgw : b < wz.heap.size := World.block_lt_of_cell? _ _ c0
            have z0 : (0 : Int) ≤ (m : Int) := by omega
            have z1 : (m : Int) < (ds.length : Int) := by omega
            clear hka hkz hd hdm hr1 hr2 hm e0 e1 e2 e3 e4
            by_cases hq : rk < rk'
            · have hdq : decide (rk < rk') = true := decide_eq_true hq
              repeat (first | go_values | go_skip | go_guarded | go_step | go_upon)
              refine wp_region_kept (by kernel_rfl) (by kernel_rfl) ?_
              have hcc := @KW.cell_eq
              repeat (go_big_quiet_step (first | fail))
              refine wpQuiet_nil ?_
              rintro w5 ⟨⟨w8, k5⟩, h9⟩
              change w5 = w8 at h9
              subst h9
              clear hcc
              repeat (first | go_values | go_skip | go_guarded | go_step | go_upon)
              exact ⟨⟨k + 1, hlt, by go_num, by rw [HR.out, if_pos hq], (HKZ.out.alloc _).trans k5⟩, by simp [intOf]; omega⟩
            · have hdq : decide (rk < rk') = false := decide_eq_false hq
              repeat (first | go_values | go_skip | go_guarded | go_step | go_upon)
              refine wp_region_kept (by kernel_rfl) (by kernel_rfl) ?_
              have hcc := @KW.cell_eq
              repeat (go_big_quiet_step (first | fail))
              refine wpQuiet_nil ?_
              rintro w5 ⟨⟨w8, k5⟩, h9⟩
              change w5 = w8 at h9
              subst h9
              clear hcc
              repeat (first | go_values | go_skip | go_guarded | go_step | go_upon)
              exact ⟨⟨k + 1, hlt, by go_num, by rw [HR.out, if_neg hq], (HKZ.out.alloc _).trans k5⟩, by simp [intOf]; omega⟩
          · have hke : k = ds.length := by omega
            subst hke
            have hmk := lst_lt ds ds.length (by omega)
            obtain ⟨m, hm⟩ : ∃ m, lst ds ds.length = m := ⟨_, rfl⟩
            have HTR : Hid (takeR ds (l, a, lp, lf, rt, rk) = if rk < rkN ds m then (ds, -2) else (ds.set m (l, a, lp, lf, rt, rk), ((m : Nat) : Int))) := by show _ = _; rw [takeR, if_neg h8, hm]
            rw [hm] at hmk ⊢
            obtain ⟨dm, hdm⟩ : ∃ p, ds[m]? = some p := ⟨_, List.getElem?_eq_getElem hmk⟩
            obtain ⟨b, o, cap', s', ee, e0, e1, e2, e3, e4, e5, _⟩ := (hAT.kept hkz).get hdm
            obtain ⟨y, hy⟩ : ∃ p, ts[m]? = some p := ⟨_, List.getElem?_eq_getElem (by have := HTS2.out; omega)⟩
            have hr := rk_at hdm
            rw [hr] at HTR
            obtain ⟨g', cg, hfm, _⟩ : ∃ g cap', Value.slice ao' ds.length c' = .slice (some ⟨g, 0, none⟩) ds.length cap' ∧ True := by
              rcases HO.out.row.1.2 with ⟨hf, _⟩ | ⟨g, c2, cur, hf, _⟩
              · injection hf with _ e9; omega
              · rw [HTS2.out] at hf; exact ⟨g, c2, hf, trivial⟩
            cases hfm
            cases ee
            obtain ⟨l', a', lp', lf', rt', rk'⟩ := dm
            dsimp only at e5 HTR
            simp only [Nat.zero_add] at e5
            have HKZ : Hid (Kept wr wz) := hkz
            have LZ := HB.out.kept hkz
            have hgw : b < wz.heap.size := World.block_lt_of_cell? _ _ e0
            have hgz := LZ.lt
            have z0 : (0 : Int) ≤ (m : Int) := by omega
            have z1 : (m : Int) < (ds.length : Int) := by omega
            have p0 := LZ.cell 0 rfl
            have p1 := LZ.cell 1 rfl
            have p2 := LZ.cell 2 rfl
            have p3 := LZ.cell 3 rfl
            have p4 := LZ.cell 4 rfl
            have p5 := LZ.cell 5 rfl
            clear hkz hdm hr e0 e1 e2 e3 e4 LZ
            by_cases hq : rk < rk'
            · have hdq : decide (rk < rk') = true := decide_eq_true hq
              repeat (first | go_values | go_skip | go_guarded | go_step | go_upon)
              refine wp_region_kept (by kernel_rfl) (by kernel_rfl) ?_
              have hcc := @KW.cell_eq
              repeat (go_big_quiet_step (first | fail))
              refine wpQuiet_nil ?_
              rintro w5 ⟨⟨w8, k5⟩, h9⟩
              change w5 = w8 at h9
              subst h9
              clear hcc
              repeat (first | go_values | go_skip | go_guarded | go_step | go_upon)
              go_returns
              rw [HTR.out, if_pos hq]
              refine ⟨.slice (some ⟨b, 0, none⟩) ds.length c', rfl, ?_, ?_⟩
              · have h9 := (HO.out.kept (HKZ.out.trans k5)).mono (Nat.le_refl _) (HKZ.out.trans k5).size
                exact ⟨ts, h9.mono (by omega) (Nat.le_refl _), hst⟩
              · exact HW2.out.1.trans (HK.out.trans (HKZ.out.trans k5))
            · have hdq : decide (rk < rk') = false := decide_eq_false hq
              repeat (first | go_values | go_skip | go_guarded | go_step | go_upon)
              refine wp_region_kept (by kernel_rfl) (by kernel_rfl) ?_
              have hcc := @KW.cell_eq
              repeat (go_big_quiet_step (first | fail))
              refine wpQuiet_nil ?_
              rintro w5 ⟨⟨w8, k5⟩, h9⟩
              change w5 = w8 at h9
              subst h9
              clear hcc
              have p0 := Kept.cell k5 p0
              have p1 := Kept.cell k5 p1
              have p2 := Kept.cell k5 p2
              have p3 := Kept.cell k5 p3
              have p4 := Kept.cell k5 p4
              have p5 := Kept.cell k5 p5
              have HK5 : Hid (Kept w2 w5) := HK.out.trans (HKZ.out.trans k5)
              have HL5 : Hid (NumAt w5 (.slice ao l.length cap) l) := HL2.out.kept HK5.out
              have O5 := (HO.out.kept (HKZ.out.trans k5)).mono (Nat.le_refl _) (HKZ.out.trans k5).size
              have HO5 : Hid (VoiceO w5 w2.heap.size w5.heap.size (.slice (some ⟨b, 0, none⟩) ds.length c') ts) := O5
              have hgg := (own_lt HO.out.row.1 (g := b) rfl).1
              clear O5 k5 hAT e5
              repeat (first | go_values | go_skip | go_guarded | go_step | go_upon)
              go_at_call 46
              refine (sownV ao cap l a lp lf rt rk _ HL5.out hll).mono ?_
              rintro e w6 ⟨a4, p4', rfl, hno, k6⟩
              have s6 := k6.size
              have hO6 := HO5.out.kept k6
              have HAP4 : ∀ (i : Nat) (p : VoiceE), ts[i]? = some p → Ap p.1.1 (.slice a4 l.length p4') := fun i p hp => ap_low (hO6.inn i p hp) hno (.inl (by omega))
              have O6 := hO6.mono (Nat.le_refl _) s6
              have HN4 := hno.mono (lo' := w2.heap.size) (by have := HK5.out.size; omega) (Nat.le_refl _)
              have HTL := HTS2.out.symm
              have hmt : m < ts.length := by omega
              have HK6 : Hid (Kept w2 w6) := HK5.out.trans k6
              have x0 := (O6.cells hy).1 0 _ rfl
              have xf0 := (O6.cells hy).2 (m * 6)
              simp only [Nat.add_zero] at x0
              have X0 := O6.put0 HTL hy (.slice a4 l.length p4') l HN4 HAP4
              have t0 : ts.set m ((.slice a4 l.length p4', l), y.2) = ts.set m ((.slice a4 l.length p4', l), y.2) := rfl
              have g1 : (ts.set m ((.slice a4 l.length p4', l), y.2))[m]? = some ((.slice a4 l.length p4', l), y.2) := get_self _ hmt
              have x1 := (X0.cells g1).1 1 _ rfl
              have xf1 := (X0.cells g1).2 (m * 6 + 1)
              have X1 := X0.put (by rw [List.length_set]; exact HTL) g1 1 (by omega) (.int .i64 a) ((.slice a4 l.length p4', l), a, y.2.2) rfl rfl
              rw [set2] at X1
              have g2 : (ts.set m ((.slice a4 l.length p4', l), a, y.2.2))[m]? = some ((.slice a4 l.length p4', l), a, y.2.2) := get_self _ hmt
              have x2 := (X1.cells g2).1 2 _ rfl
              have xf2 := (X1.cells g2).2 (m * 6 + 2)
              have X2 := X1.put (by rw [List.length_set]; exact HTL) g2 2 (by omega) (.bool lp) ((.slice a4 l.length p4', l), a, lp, y.2.2.2) rfl rfl
              rw [set2] at X2
              have g3 : (ts.set m ((.slice a4 l.length p4', l), a, lp, y.2.2.2))[m]? = some ((.slice a4 l.length p4', l), a, lp, y.2.2.2) := get_self _ hmt
              have x3 := (X2.cells g3).1 3 _ rfl
              have xf3 := (X2.cells g3).2 (m * 6 + 3)
              have X3 := X2.put (by rw [List.length_set]; exact HTL) g3 3 (by omega) (.int .i64 lf) ((.slice a4 l.length p4', l), a, lp, lf, y.2.2.2.2) rfl rfl
              rw [set2] at X3
              have g4 : (ts.set m ((.slice a4 l.length p4', l), a, lp, lf, y.2.2.2.2))[m]? = some ((.slice a4 l.length p4', l), a, lp, lf, y.2.2.2.2) := get_self _ hmt
              have x4 := (X3.cells g4).1 4 _ rfl
              have xf4 := (X3.cells g4).2 (m * 6 + 4)
              have X4 := X3.put (by rw [List.length_set]; exact HTL) g4 4 (by omega) (.int .i64 rt) ((.slice a4 l.length p4', l), a, lp, lf, rt, y.2.2.2.2.2) rfl rfl
              rw [set2] at X4
              have g5 : (ts.set m ((.slice a4 l.length p4', l), a, lp, lf, rt, y.2.2.2.2.2))[m]? = some ((.slice a4 l.length p4', l), a, lp, lf, rt, y.2.2.2.2.2) := get_self _ hmt
              have x5 := (X4.cells g5).1 5 _ rfl
              have xf5 := (X4.cells g5).2 (m * 6 + 5)
              have X5 := X4.put (by rw [List.length_set]; exact HTL) g5 5 (by omega) (.int .i64 rk) ((.slice a4 l.length p4', l), a, lp, lf, rt, rk) rfl rfl
              rw [set2] at X5
              clear t0 g1 g2 g3 g4 g5
              have HX : Hid (VoiceO _ w2.heap.size w6.heap.size (.slice (some ⟨b, 0, none⟩) ds.length c') (ts.set m (((.slice a4 l.length p4'), l), a, lp, lf, rt, rk))) := X5
              clear X0 X1 X2 X3 X4 X5 hO6 hno HAP4 HN4 O6 k6 p0 p1 p2 p3 p4 p5 HTL
              dsimp only
              repeat (first | go_values | go_skip | go_guarded | go_step | go_upon)
              go_returns
              rw [HTR.out, if_neg hq]
              refine ⟨.slice (some ⟨b, 0, none⟩) ds.length c', rfl, ?_, ?_⟩
              · exact ⟨_, (HX.out.low).mono (by omega) (Nat.le_refl _), by rw [List.map_set, hst]; rfl⟩
              · exact (((((((HW2.out.1.trans HK6.out).setNew (by simp; omega) _).setNew (by simp; omega) _).setNew (by simp; omega) _).setNew (by simp; omega) _).setNew (by simp; omega) _).setNew (by simp; omega) _)

end Go.Proofs.Ytapfafibhjpkdaa
