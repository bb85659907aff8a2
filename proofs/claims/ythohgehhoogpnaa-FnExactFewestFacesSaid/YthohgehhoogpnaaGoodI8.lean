/-
  What makes a ground a good one, in the program.
-/
import Derived.Test.YthohgehhoogpnaaFaceI8
namespace Go.Proofs.Ythohgehhoogpnaa
open Go.ChangeShapes Go.WideShapes Go.ChangeAt Go.RowKit

set_option maxRecDepth 100000
set_option linter.unusedVariables false
theorem says_true {P : Prop} {e : Ending} (hP : P) (h : Says P e) : e = .returned (.bool true) := by
  obtain ⟨t, rfl, ht⟩ := h
  rw [ht.2 hP]
theorem says_false {P : Prop} {e : Ending} (hP : ¬ P) (h : Says P e) : e = .returned (.bool false) := by
  obtain ⟨t, rfl, ht⟩ := h
  cases t
  · rfl
  · exact absurd (ht.1 rfl) hP
theorem row_take2 {w : World} {ao : Option Addr} {m cap : Nat} {l : List Spot2D} (h : Spot2At w (.slice ao m cap) l) (hn : m = l.length) {i : Nat} (hi : i ≤ l.length) : Spot2At w (.slice ao i cap) (l.take i) := by
  subst hn
  obtain ⟨ao', cap', e, hc⟩ := h
  cases e
  unfold Spot2At
  rw [List.length_take, Nat.min_eq_left hi]
  refine ⟨ao, cap, rfl, fun j x hx => hc j x ?_⟩
  rw [← List.take_append_drop i l, List.flatMap_append, List.getElem?_append_left (List.getElem?_eq_some_iff.1 hx).1]
  exact hx
theorem LLO.take {w : World} {lo hi : Nat} {ao : Option Addr} {m cap : Nat} {l : List (List NumD)} (h : LLO w lo hi (.slice ao m cap) l) (i : Nat) (hi' : i ≤ l.length) : LLAt w (.slice ao i cap) (l.take i) := by
  obtain ⟨rs, h, rfl⟩ := h
  have hl : i ≤ rs.length := by simpa using hi'
  have ha := h.at
  refine ⟨rs.take i, ⟨?_, fun r hr => ha.2 r (List.mem_of_mem_take hr)⟩, by simp⟩
  obtain ⟨ao', cap', e, hc⟩ := ha.1
  cases e
  rw [List.length_take, Nat.min_eq_left hl]
  refine ⟨ao, cap, rfl, fun j x hx => hc j x ?_⟩
  rw [← List.take_append_drop i rs, List.flatMap_append, List.getElem?_append_left (List.getElem?_eq_some_iff.1 hx).1]
  exact hx
theorem two_of_take {f : List Spot2D} {k : Nat} {p : Spot2D} : p ∉ f.take k ↔ ∀ (j : Nat) (q : Spot2D), j < k → f[j]? = some q → p ≠ q := by
  constructor
  · intro h j q hj hq e
    subst e
    exact h (List.mem_of_getElem? (i := j) (by rw [List.getElem?_take, if_pos hj]; exact hq))
  · intro h hm
    obtain ⟨j, hj⟩ := List.mem_iff_getElem?.1 hm
    rw [List.getElem?_take] at hj
    split at hj
    · exact h j p (by assumption) hj rfl
    · cases hj

set_option maxHeartbeats 8000000 in
theorem igoodpts (pts : List Spot2D) (pv : Value) (w : World) (lo hi : Nat) (ho : Spot2O w lo hi pv pts) (hm : pts.length ≤ 1048576) :
    Calls Try.prog 58 #[pv] w fun e w' => Says (pts.length ≤ 40 ∧ ∀ i, i < pts.length → PtOk pts i) e ∧ Kept w w' := by
  obtain ⟨ap, cp, hsl, hcp⟩ := own_capR ho
  subst hsl
  have hv := ho.at
  by_cases h1 : (40 : Int) < (pts.length : Int)
  · have d1 : decide ((40 : Int) < (pts.length : Int)) = true := by simpa using h1
    go_enter Try.func58, Try.ntmps58
    go_wp2
    go_ret
    exact ⟨says_no (fun h => by have := h.1; omega), But.refl _ _ _⟩
  have d1 : decide ((40 : Int) < (pts.length : Int)) = false := by simpa using h1
  go_enter Try.func58, Try.ntmps58
  go_wp2
  clear d1
  go_loopw [10] (fun i wr => ∃ k : Nat, k ≤ pts.length ∧ i = .int .i64 k ∧ (∀ j, j < k → PtOk pts j) ∧ Kept w wr) (fun i _ => pts.length - (intOf i).toNat)
  case atStart => exact ⟨0, by omega, rfl, fun j hj => by omega, But.refl _ _ _⟩
  case round =>
    obtain ⟨k, hk, rfl, hok, hkp⟩ := hrel
    have HOK : Hid (∀ j, j < k → PtOk pts j) := hok
    clear hok
    by_cases hlt : k < pts.length
    · obtain ⟨⟨px, py⟩, hpk⟩ : ∃ p, pts[k]? = some p := ⟨_, List.getElem?_eq_getElem hlt⟩
      obtain ⟨b, o, cap1, e, c0, c1⟩ := spot2_get (hv.kept hkp) hpk
      cases e
      dsimp only at c0 c1
      have HPK : Hid (pts[k]? = some (px, py)) := hpk
      have HT : Hid (Spot2At wr (.slice (some ⟨b, o, none⟩) k cp) (pts.take k)) := row_take2 (hv.kept hkp) rfl hk
      have HTL : Hid ((pts.take k).length ≤ 1048576) := by show (pts.take k).length ≤ _; rw [List.length_take]; omega
      have hkc : (k : Int) ≤ (cp : Int) := by omega
      clear hpk
      obtain ⟨WZ, hWZ⟩ : ∃ W, W = wr.alloc (.cells #[.int .i64 px, .int .i64 py] 29) := ⟨_, rfl⟩
      have KP : Kept wr WZ := by rw [hWZ]; exact (But.refl _ _ _).alloc _
      have L0 : Loc WZ wr.heap.size [.int .i64 px, .int .i64 py] := by rw [hWZ]; exact Loc.new _ _ _
      have HKP : Hid (Kept w WZ) := hkp.trans KP
      have HTZ : Hid (Spot2At WZ (.slice (some ⟨b, o, none⟩) k cp) (pts.take k)) := HT.out.kept KP
      have l0 := L0.cell 0 rfl
      have l1 := L0.cell 1 rfl
      have q0 := L0.lt
      have HWZ : Hid (WZ = _) := hWZ
      clear hWZ KP L0 HT hkp
      by_cases hin : PlaceP (px, py)
      · have hd : decide (PlaceP (px, py)) = true := by simpa using hin
        have HIN : Hid (PlaceP (px, py)) := hin
        have HON : Hid (∀ x : KW WZ, Calls Try.prog 80 #[.agg #[.int .i64 px, .int .i64 py]] x.w fun e w' => e = .returned (.bool true) ∧ Kept x.w w') := fun x => calls_bool hd (ion px py x.w)
        clear hin hd
        by_cases hm : (px, py) ∈ pts.take k
        · have hd2 : decide ((px, py) ∈ pts.take k) = true := by simpa using hm
          have HM : Hid ((px, py) ∈ pts.take k) := hm
          have HCI : Hid (∀ x : KW WZ, Calls Try.prog 81 #[.slice (some ⟨b, o, none⟩) k cp, .agg #[.int .i64 px, .int .i64 py]] x.w fun e w' => e = .returned (.bool true) ∧ Kept x.w w') := fun x => calls_bool hd2 (icontains2 _ _ _ _ _ (HTZ.out.kept x.k) HTL.out)
          clear hm hd2
          repeat (first | go_values | go_skip | go_guarded | go_step | go_upon)
          rw [← HWZ.out]
          refine wp_region_kept (by kernel_rfl) (by kernel_rfl) ?_
          have hcc := KW.cell_eq WZ
          repeat (go_big_quiet_step (first | (go_at_call 80; exact kw_call (HON.out _)) | (go_at_call 81; exact kw_call (HCI.out _))))
          refine wpQuiet_nil ?_
          rintro w9 ⟨⟨w8, k9⟩, h9⟩
          change w9 = w8 at h9
          subst h9
          clear hcc
          repeat (first | go_values | go_skip | go_guarded | go_step | go_upon)
          go_ret
          refine ⟨says_no (fun h => ?_), HKP.out.trans k9⟩
          exact two_of_take.2 (h.2 k hlt _ HPK.out).2 HM.out
        · have hd2 : decide ((px, py) ∈ pts.take k) = false := by simpa using hm
          have HM : Hid ((px, py) ∉ pts.take k) := hm
          have HCI : Hid (∀ x : KW WZ, Calls Try.prog 81 #[.slice (some ⟨b, o, none⟩) k cp, .agg #[.int .i64 px, .int .i64 py]] x.w fun e w' => e = .returned (.bool false) ∧ Kept x.w w') := fun x => calls_bool hd2 (icontains2 _ _ _ _ _ (HTZ.out.kept x.k) HTL.out)
          clear hm hd2
          repeat (first | go_values | go_skip | go_guarded | go_step | go_upon)
          rw [← HWZ.out]
          refine wp_region_kept (by kernel_rfl) (by kernel_rfl) ?_
          have hcc := KW.cell_eq WZ
          repeat (go_big_quiet_step (first | (go_at_call 80; exact kw_call (HON.out _)) | (go_at_call 81; exact kw_call (HCI.out _))))
          refine wpQuiet_nil ?_
          rintro w9 ⟨⟨w8, k9⟩, h9⟩
          change w9 = w8 at h9
          subst h9
          clear hcc
          repeat (first | go_values | go_skip | go_guarded | go_step | go_upon)
          refine ⟨⟨k + 1, hlt, by go_num, fun j hj => ?_, HKP.out.trans k9⟩, by simp [intOf]; omega⟩
          rcases Nat.lt_succ_iff_lt_or_eq.1 hj with hj | rfl
          · exact HOK.out j hj
          · intro z hz
            rw [HPK.out] at hz
            cases hz
            exact ⟨HIN.out, two_of_take.1 HM.out⟩
      · have hd : decide (PlaceP (px, py)) = false := by simpa using hin
        have HIN : Hid (¬ PlaceP (px, py)) := hin
        have HON : Hid (∀ x : KW WZ, Calls Try.prog 80 #[.agg #[.int .i64 px, .int .i64 py]] x.w fun e w' => e = .returned (.bool false) ∧ Kept x.w w') := fun x => calls_bool hd (ion px py x.w)
        clear hin hd
        repeat (first | go_values | go_skip | go_guarded | go_step | go_upon)
        rw [← HWZ.out]
        refine wp_region_kept (by kernel_rfl) (by kernel_rfl) ?_
        have hcc := KW.cell_eq WZ
        repeat (go_big_quiet_step (first | (go_at_call 80; exact kw_call (HON.out _))))
        refine wpQuiet_nil ?_
        rintro w9 ⟨⟨w8, k9⟩, h9⟩
        change w9 = w8 at h9
        subst h9
        clear hcc
        repeat (first | go_values | go_skip | go_guarded | go_step | go_upon)
        go_ret
        exact ⟨says_no (fun h => HIN.out (h.2 k hlt _ HPK.out).1), HKP.out.trans k9⟩
    · have hke : k = pts.length := by omega
      subst hke
      go_wp2
      go_ret
      exact ⟨says_yes ⟨by omega, HOK.out⟩, hkp⟩

set_option maxHeartbeats 8000000 in
theorem ifollows (f : List NumD) (os : List (List NumD)) (v ov : Value) (w : World) (lo hi : Nat) (ho : NumO w lo hi v f) (hO : LLAt w ov os) (h3 : 1 ≤ f.length) (hn : f.length ≤ 1048576) (hm : os.length ≤ 1048576) (hl : ∀ o ∈ os, o.length ≤ 1048576 ∧ Once o) :
    Calls Try.prog 60 #[v, ov] w fun e w' => Says (∃ (j : Nat) (o : List NumD) (k : Nat), os[j]? = some o ∧ k < f.length ∧ ¬ NoEdge o f k) e ∧ Kept w w' := by
  have hv := ho.at
  obtain ⟨ao, cap, hsl⟩ := row_nil hv
  subst hsl
  obtain ⟨oa, oc, hsl⟩ := hO.form
  subst hsl
  go_enter Try.func60, Try.ntmps60
  go_wp2_with (go_at_call 82; refine (iedgesE f _ _ lo hi ho hn h3).mono ?_; rintro e w1 ⟨⟨ev, R, rfl, hed, hR⟩, k1⟩; obtain ⟨ea, ec, hef⟩ := hed.form; subst hef; have HED : Hid (EdAt w1 (.slice ea f.length ec) R f) := hed; clear hed)
  have HK1 : Hid (Kept w w1) := k1
  clear k1
  go_loopw [12] (fun i wr => ∃ k : Nat, k ≤ f.length ∧ i = .int .i64 k ∧ (∀ x, x < k → ∀ (j : Nat) (o : List NumD), os[j]? = some o → NoEdge o f x) ∧ Kept w1 wr) (fun i _ => f.length - (intOf i).toNat)
  case atStart => exact ⟨0, by omega, rfl, fun j hj => by omega, But.refl _ _ _⟩
  case round =>
    obtain ⟨k, hk, rfl, hok, hkp⟩ := hrel
    have HOK : Hid (∀ x, x < k → ∀ (j : Nat) (o : List NumD), os[j]? = some o → NoEdge o f x) := hok
    clear hok
    by_cases hlt : k < f.length
    · obtain ⟨p, hpk⟩ : ∃ p : Int, f[k]? = some p := ⟨_, List.getElem?_eq_getElem hlt⟩
      obtain ⟨r, hrk⟩ : ∃ r : Int, f[(k + 1) % f.length]? = some r := ⟨_, List.getElem?_eq_getElem (Nat.mod_lt _ (by omega))⟩
      obtain ⟨b, o, cap1, e, c0, r0, r1⟩ := (HED.out.kept hkp).get hlt hpk hrk
      cases e
      have HPK : Hid (f[k]? = some p ∧ f[(k + 1) % f.length]? = some r) := ⟨hpk, hrk⟩
      have HK : Hid (Kept w1 wr) := hkp
      clear hpk hrk hkp r0 r1
      go_wp2
      clear c0
      go_loopw [18] (fun i wz => ∃ m : Nat, m ≤ os.length ∧ i = .int .i64 m ∧ (∀ (j : Nat) (o : List NumD), j < m → os[j]? = some o → NoEdge o f k) ∧ Kept w1 wz) (fun i _ => os.length - (intOf i).toNat)
      case atStart => exact ⟨0, by omega, rfl, fun j o hj => by omega, HK.out⟩
      case round =>
        rename World => WZ
        obtain ⟨m, hm', rfl, hne, hkz⟩ := hrel
        have HNE : Hid (∀ (j : Nat) (o : List NumD), j < m → os[j]? = some o → NoEdge o f k) := hne
        clear hne
        by_cases hmt : m < os.length
        · obtain ⟨q, hq⟩ : ∃ q, os[m]? = some q := ⟨_, List.getElem?_eq_getElem hmt⟩
          have KZ := HK1.out.trans hkz
          obtain ⟨b2, o2, cap2, u2, e, c2, hu2⟩ := lL_get (hO.kept KZ) hq
          cases e
          obtain ⟨a2, d2, hsu⟩ := row_nil hu2
          subst hsu
          obtain ⟨b7, o7, cap7, e7, c7, r0, r1⟩ := (HED.out.kept hkz).get hlt HPK.out.1 HPK.out.2
          clear e7 c7
          obtain ⟨hql, hqo⟩ := hl q (List.mem_of_getElem? hq)
          have HGA : Hid (∀ x : KW WZ, Calls Try.prog 83 #[.slice a2 q.length d2, .int .i64 p, .int .i64 r] x.w fun e w' => Says (∃ e, EdgeAt q p r e) e ∧ Kept x.w w') := fun x => igoes q p r _ _ (hu2.kept x.k) hql hqo
          have HE : Hid (NoEdge q f k ↔ ¬ ∃ e, EdgeAt q p r e) := ⟨fun h ⟨e, he⟩ => h p r e HPK.out.1 HPK.out.2 he, fun h p' q' e h1 h2 he => by
            rw [HPK.out.1] at h1
            rw [HPK.out.2] at h2
            cases h1
            cases h2
            exact h ⟨e, he⟩⟩
          have HQ : Hid (os[m]? = some q) := hq
          have HKZ : Hid (Kept w1 WZ) := hkz
          have q2 := cell_ltG c2
          have q3 := cell_ltG r0
          clear hq hu2 hkz KZ hqo
          by_cases hE : ∃ e, EdgeAt q p r e
          · have HGB : Hid (∀ x : KW WZ, Calls Try.prog 83 #[.slice a2 q.length d2, .int .i64 p, .int .i64 r] x.w fun e w' => e = .returned (.bool true) ∧ Kept x.w w') := fun x => (HGA.out x).mono fun e w' ⟨hs, hk⟩ => ⟨says_true hE hs, hk⟩
            have HEE : Hid _ := hE
            clear hE HGA
            repeat (first | go_values | go_skip | go_guarded | go_step | go_upon)
            refine wp_region_kept (by kernel_rfl) (by kernel_rfl) ?_
            have hcc := KW.cell_eq WZ
            repeat (go_big_quiet_step (first | (go_at_call 83; exact kw_call (HGB.out _))))
            refine wpQuiet_nil ?_
            rintro w9 ⟨⟨w8, k9⟩, h9⟩
            change w9 = w8 at h9
            subst h9
            clear hcc
            repeat (first | go_values | go_skip | go_guarded | go_step | go_upon)
            go_ret
            exact ⟨says_yes ⟨m, q, k, HQ.out, hlt, fun h => HE.out.1 h HEE.out⟩, (HK1.out.trans HKZ.out).trans k9⟩
          · have HGB : Hid (∀ x : KW WZ, Calls Try.prog 83 #[.slice a2 q.length d2, .int .i64 p, .int .i64 r] x.w fun e w' => e = .returned (.bool false) ∧ Kept x.w w') := fun x => (HGA.out x).mono fun e w' ⟨hs, hk⟩ => ⟨says_false hE hs, hk⟩
            have HEE : Hid (¬ _) := hE
            clear hE HGA
            repeat (first | go_values | go_skip | go_guarded | go_step | go_upon)
            refine wp_region_kept (by kernel_rfl) (by kernel_rfl) ?_
            have hcc := KW.cell_eq WZ
            repeat (go_big_quiet_step (first | (go_at_call 83; exact kw_call (HGB.out _))))
            refine wpQuiet_nil ?_
            rintro w9 ⟨⟨w8, k9⟩, h9⟩
            change w9 = w8 at h9
            subst h9
            clear hcc
            repeat (first | go_values | go_skip | go_guarded | go_step | go_upon)
            refine ⟨⟨m + 1, hmt, by go_num, fun j o hj ho => ?_, HKZ.out.trans k9⟩, by simp [intOf]; omega⟩
            rcases Nat.lt_succ_iff_lt_or_eq.1 hj with hj | rfl
            · exact HNE.out j o hj ho
            · rw [HQ.out] at ho
              cases ho
              exact HE.out.2 HEE.out
        · have hme : m = os.length := by omega
          subst hme
          go_wp2
          refine ⟨⟨k + 1, hlt, by go_num, fun x hx j o hj => ?_, hkz⟩, by simp [intOf]; omega⟩
          rcases Nat.lt_succ_iff_lt_or_eq.1 hx with hx | rfl
          · exact HOK.out x hx j o hj
          · exact HNE.out j o (List.getElem?_eq_some_iff.1 hj).1 hj
    · have hke : k = f.length := by omega
      subst hke
      go_wp2
      go_ret
      refine ⟨says_no ?_, HK1.out.trans hkp⟩
      rintro ⟨j, o, x, h1, h2, h3⟩
      exact h3 (HOK.out x h2 j o h1)

theorem good_split (g : GroundD) : GoodG g ↔ (g.1.length ≤ 40 ∧ ∀ i, i < g.1.length → PtOk g.1 i) ∧ 1 ≤ g.2.length ∧ g.2.length ≤ 20 ∧ ∀ i, i < g.2.length → FcOk g i :=
  ⟨fun ⟨a, b, c, d, e⟩ => ⟨⟨a, d⟩, b, c, e⟩, fun ⟨⟨a, d⟩, b, c, e⟩ => ⟨a, b, c, d, e⟩⟩
set_option maxHeartbeats 8000000 in
theorem igood (g : GroundD) (v : Value) (lo hi : Nat) (w : World) (ho : GroundO w lo hi v g) (hm : g.1.length ≤ 1048576) (hn : g.2.length ≤ 1048576) (hl : ∀ f ∈ g.2, f.length ≤ 1048576) :
    Calls Try.prog 19 #[v] w fun e w' => Says (GoodG g) e ∧ Kept w w' := by
  obtain ⟨pv, fv, rfl, hP, hF⟩ := ho
  obtain ⟨ap, cp, hsl, hcp⟩ := own_capR hP
  subst hsl
  obtain ⟨af, cf, hsl, hcf⟩ : ∃ ao cap, fv = .slice ao g.2.length cap ∧ g.2.length ≤ cap := by
    obtain ⟨rs, h, hr⟩ := hF
    have := own_capR h.row
    rw [← hr, List.length_map]
    exact this
  subst hsl
  obtain ⟨W0, hW0⟩ : ∃ W, W = w.alloc (.cells #[.slice ap g.1.length cp, .slice af g.2.length cf] 26) := ⟨_, rfl⟩
  have K0 : Kept w W0 := by rw [hW0]; exact (But.refl _ _ _).alloc _
  have L0 : Loc W0 w.heap.size [.slice ap g.1.length cp, .slice af g.2.length cf] := by rw [hW0]; exact Loc.new _ _ _
  have hPO := hP.kept K0
  have hFO := hF.kept K0
  have HPTS : Hid (Calls Try.prog 58 #[.slice ap g.1.length cp] W0 fun e w' => Says (g.1.length ≤ 40 ∧ ∀ i, i < g.1.length → PtOk g.1 i) e ∧ Kept W0 w') := igoodpts g.1 _ _ lo hi hPO hm
  have HW0 : Hid (W0 = _) := hW0
  clear hW0
  have g0 := L0.cell 0 rfl
  have g1 := L0.cell 1 rfl
  go_enter Try.func19, Try.ntmps19
  repeat (first | go_values | go_skip | go_guarded | go_step | go_upon)
  rw [← HW0.out]
  refine HPTS.out.mono ?_
  rintro e w1 ⟨hs, k1⟩
  have g0 := Kept.cell k1 g0
  have g1 := Kept.cell k1 g1
  by_cases hpt : g.1.length ≤ 40 ∧ ∀ i, i < g.1.length → PtOk g.1 i
  · have he := says_true hpt hs
    subst he
    have HPT : Hid (g.1.length ≤ 40 ∧ ∀ i, i < g.1.length → PtOk g.1 i) := hpt
    clear hpt hs HPTS
    dsimp only
    by_cases h2 : (g.2.length : Int) < 1
    · have d2 : decide ((g.2.length : Int) < 1) = true := by simpa using h2
      repeat (first | go_values | go_skip | go_guarded | go_step | go_upon)
      go_ret
      exact ⟨says_no (fun h => by have := h.2.1; omega), K0.trans k1⟩
    have d2 : decide ((g.2.length : Int) < 1) = false := by simpa using h2
    by_cases h3 : (20 : Int) < (g.2.length : Int)
    · have d3 : decide ((20 : Int) < (g.2.length : Int)) = true := by simpa using h3
      repeat (first | go_values | go_skip | go_guarded | go_step | go_upon)
      go_ret
      exact ⟨says_no (fun h => by have := h.2.2.1; omega), K0.trans k1⟩
    have d3 : decide ((20 : Int) < (g.2.length : Int)) = false := by simpa using h3
    repeat (first | go_values | go_skip | go_guarded | go_step | go_upon)
    clear d2 d3
    have hpl : ∀ p ∈ g.1, PlaceP p := fun p hp' => by
      obtain ⟨i, hi'⟩ := List.mem_iff_getElem?.1 hp'
      exact (HPT.out.2 i (List.getElem?_eq_some_iff.1 hi').1 p hi').1
    have HPL : Hid (∀ p ∈ g.1, PlaceP p) := hpl
    have HK1 : Hid (Kept W0 w1) := k1
    have L1 := L0.kept k1
    clear hpl k1 g0 g1
    go_loopw [24] (fun i wr => ∃ k : Nat, k ≤ g.2.length ∧ i = .int .i64 k ∧ (∀ j, j < k → FcOk g j) ∧ Kept w1 wr) (fun i _ => g.2.length - (intOf i).toNat)
    case atStart => exact ⟨0, by omega, rfl, fun j hj => by omega, But.refl _ _ _⟩
    case round =>
      obtain ⟨k, hk, rfl, hok, hkp⟩ := hrel
      have HFC : Hid (∀ j, j < k → FcOk g j) := hok
      clear hok
      by_cases hlt : k < g.2.length
      · obtain ⟨f, hfk⟩ : ∃ f, g.2[k]? = some f := ⟨_, List.getElem?_eq_getElem hlt⟩
        have KA := HK1.out.trans hkp
        have y1 := (L1.kept hkp).cell 0 rfl
        have y2 := (L1.kept hkp).cell 1 rfl
        obtain ⟨b, o, cap1, u, e, c0, hu⟩ := lLO_get (hFO.kept KA) hfk
        cases e
        obtain ⟨au, cu, hsu⟩ := row_nil hu.at
        subst hsu
        have hfl := hl f (List.mem_of_getElem? hfk)
        have HFK : Hid (g.2[k]? = some f) := hfk
        have HSF : Hid (Calls Try.prog 59 #[.slice ap g.1.length cp, .slice au f.length cu] wr fun e w' => Says (FaceOk g.1 f) e ∧ Kept wr w') := iface g.1 f _ _ wr (hPO.kept KA).at lo hi hu HPL.out hfl hm
        have HU : Hid (NumO wr lo hi (.slice au f.length cu) f) := hu
        have HK : Hid (Kept w1 wr) := hkp
        have HFT : Hid (LLAt wr (.slice (some ⟨b, o, none⟩) k cf) (g.2.take k)) := (hFO.kept KA).take k hk
        have hkc : (k : Int) ≤ (cf : Int) := by omega
        have HTL : Hid ((g.2.take k).length ≤ 1048576) := by show (g.2.take k).length ≤ _; rw [List.length_take]; omega
        clear hfk hkp hu KA
        repeat (first | go_values | go_skip | go_guarded | go_step | go_upon)
        refine HSF.out.mono ?_
        rintro e w2 ⟨hs, k2⟩
        by_cases hfo : FaceOk g.1 f
        · have he := says_true hfo hs
          subst he
          have HFO : Hid (FaceOk g.1 f) := hfo
          have HK2 : Hid (Kept wr w2) := k2
          have g3 := Kept.cell k2 y1
          have g4 := Kept.cell k2 y2
          have h31 : 1 ≤ f.length := by have := hfo.1; omega
          clear hfo hs k2 y1 y2
          dsimp only
          repeat (first | go_values | go_skip | go_guarded | go_step | go_upon)
          go_at_call 60
          refine (ifollows f (g.2.take k) _ _ _ lo hi (HU.out.kept HK2.out) (HFT.out.kept HK2.out) h31 hfl HTL.out (fun o ho => ?_)).mono ?_
          · obtain ⟨j, hj⟩ := List.mem_iff_getElem?.1 ho
            rw [List.getElem?_take] at hj
            split at hj
            · rename_i hjk
              exact ⟨hl o (List.mem_of_getElem? hj), once_of ((HFC.out j hjk o hj).1.2.2.1)⟩
            · cases hj
          · rintro e w3 ⟨hs, k3⟩
            have HNF : Hid ((∃ (j : Nat) (o : List NumD) (x : Nat), (g.2.take k)[j]? = some o ∧ x < f.length ∧ ¬ NoEdge o f x) ↔ ¬ FcOk g k) := by
              show _ ↔ _
              constructor
              · rintro ⟨j, o, x, h1, h2, h3⟩ hF
                rw [List.getElem?_take] at h1
                split at h1
                · rename_i hjk
                  exact h3 ((hF f HFK.out).2 j o hjk h1 x h2)
                · cases h1
              · intro h
                refine Classical.byContradiction fun hno => h ?_
                intro f' hf'
                rw [HFK.out] at hf'
                cases hf'
                refine ⟨HFO.out, fun j o hj ho x hx => Classical.byContradiction fun h3 => hno ⟨j, o, x, by rw [List.getElem?_take, if_pos hj]; exact ho, hx, h3⟩⟩
            by_cases hex : ∃ (j : Nat) (o : List NumD) (x : Nat), (g.2.take k)[j]? = some o ∧ x < f.length ∧ ¬ NoEdge o f x
            · have he := says_true hex hs
              subst he
              have HEX : Hid (¬ FcOk g k) := HNF.out.1 hex
              clear hex hs HNF
              dsimp only
              repeat (first | go_values | go_skip | go_guarded | go_step | go_upon)
              go_ret
              exact ⟨says_no (fun h => HEX.out (h.2.2.2.2 k hlt)), (((K0.trans HK1.out).trans HK.out).trans HK2.out).trans k3⟩
            · have he := says_false hex hs
              subst he
              have HEX : Hid (FcOk g k) := Classical.byContradiction fun h => hex (HNF.out.2 h)
              clear hex hs HNF
              dsimp only
              repeat (first | go_values | go_skip | go_guarded | go_step | go_upon)
              refine ⟨⟨k + 1, hlt, by go_num, fun j hj => ?_, (HK.out.trans HK2.out).trans k3⟩, by simp [intOf]; omega⟩
              rcases Nat.lt_succ_iff_lt_or_eq.1 hj with hj | rfl
              · exact HFC.out j hj
              · exact HEX.out
        · have he := says_false hfo hs
          subst he
          have HFO : Hid (¬ FaceOk g.1 f) := hfo
          clear hfo hs
          dsimp only
          repeat (first | go_values | go_skip | go_guarded | go_step | go_upon)
          go_ret
          exact ⟨says_no (fun h => HFO.out ((h.2.2.2.2 k hlt) f HFK.out).1), ((K0.trans HK1.out).trans HK.out).trans k2⟩
      · have hke : k = g.2.length := by omega
        subst hke
        repeat (first | go_values | go_skip | go_guarded | go_step | go_upon)
        go_ret
        exact ⟨says_yes ((good_split g).2 ⟨HPT.out, by omega, by omega, HFC.out⟩), (K0.trans HK1.out).trans hkp⟩
  · have he := says_false hpt hs
    subst he
    have HPT : Hid (¬ (g.1.length ≤ 40 ∧ ∀ i, i < g.1.length → PtOk g.1 i)) := hpt
    clear hpt hs HPTS
    dsimp only
    repeat (first | go_values | go_skip | go_guarded | go_step | go_upon)
    go_ret
    exact ⟨says_no (fun h => HPT.out ((good_split g).1 h).1), K0.trans k1⟩

end Go.Proofs.Ythohgehhoogpnaa
