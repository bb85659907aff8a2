/-
  Room that is shared, in the specification.
-/
import Derived.Test.YtaofilinejanjaaShF18
import Derived.Test.YtaofilinejanjaaQuiet
namespace Go.Proofs.Ytaofilinejanjaa
open Go.ChangeShapes Go.WideShapes Go.ChangeAt Go.RowKit

set_option maxRecDepth 100000
set_option linter.unusedVariables false

set_option maxHeartbeats 32000000 in
theorem sshares (room : Int) (least grow : List Int) (vl vg : Value) (w : World) (hvl : NumAt w vl least) (hvg : NumAt w vg grow) (hp : ShP least grow) (hr : 0 ≤ room ∧ room ≤ 10000) :
    Calls Try.prog 35 #[.int .i64 room, vl, vg] w fun e w' => ∃ v, e = .returned v ∧ NumO w' w.heap.size w'.heap.size v (shA room least grow) ∧ Kept w w' := by
  obtain ⟨aol, capl, hsl⟩ := row_nil hvl
  subst hsl
  obtain ⟨aog, capg, hsg⟩ := row_nil hvg
  rw [hp.2.1] at hsg
  subst hsg
  obtain ⟨n, hn⟩ : ∃ n, least.length = n := ⟨_, rfl⟩
  have HN : Hid (least.length = n ∧ grow.length = n ∧ n ≤ 40) := show _ ∧ _ ∧ _ from ⟨hn, hp.2.1.trans hn, by have := hp.1; omega⟩
  have hn40 : n ≤ 40 := HN.out.2.2
  rw [hn]
  rw [hn] at hvl hvg
  have HP : Hid (ShP least grow) := hp
  obtain ⟨hr1, hr2⟩ := hr
  have HVL : Hid (NumAt w (.slice aol n capl) least) := hvl
  have HVG : Hid (NumAt w (.slice aog n capg) grow) := hvg
  clear hp hn hvl hvg
  go_enter Try.func35, Try.ntmps35
  repeat (first | (at_builtin; refine forgetL (fun w' => w' = _) rfl ?_) | go_values | go_skip | go_guarded | go_step | go_upon)
  intro W7 hW7
  rw [hW7]
  clear hW7 W7
  refine app_num rfl _ _ rfl (lo := w.heap.size) (hi := w.heap.size + 1) rfl (own_empty w) rfl (HVL.out.kept ((But.refl _ _ w).alloc _)) HN.out.1.symm (by have := HN.out; simp; omega) (by simp) ?_
  intro vs w1 hos b1
  have hos : NumO w1 w.heap.size w1.heap.size vs least := hos
  have k1 : Kept w w1 := But.onto ((But.refl _ _ w).alloc _) b1 (Nat.le_refl _)
  have HOS : Hid (NumO w1 w.heap.size w1.heap.size vs least) := hos
  have K1 : Hid (Kept w w1) := k1
  have s1 := k1.size
  have hlv : ∃ ao cap, vs = .slice ao n cap := by
    obtain ⟨ao, cap, e⟩ := hos.form
    rw [HN.out.1] at e
    exact ⟨ao, cap, e⟩
  obtain ⟨aov, capv, hve⟩ := hlv
  subst hve
  clear hos k1 b1
  dsimp only
  repeat (first | go_values | go_skip | go_guarded | go_step | go_upon)
  go_loopw [0, 8, 20] (fun lv gv iv wr => wr = w1 ∧ ∃ (k : Nat) (Lf Gs : Int), k ≤ n ∧ iv = .int .i64 k ∧ lv = .int .i64 Lf ∧ gv = .int .i64 Gs ∧ Hid (Lf = room - (least.take k).sum ∧ Gs = (grow.take k).sum) ∧ (-400000 ≤ Lf ∧ Lf ≤ 10000) ∧ (0 ≤ Gs ∧ Gs ≤ 40000)) (fun lv gv iv _ => n - (intOf iv).toNat)
  case atStart => exact ⟨rfl, 0, room, 0, by omega, rfl, rfl, rfl, (show room = room - (least.take 0).sum ∧ 0 = (grow.take 0).sum from ⟨by simp, by simp⟩), by omega, by omega⟩
  case round =>
    obtain ⟨hwr, k, Lf, Gs, hk, rfl, rfl, rfl, HE, ⟨hb1, hb2⟩, hb3, hb4⟩ := hrel
    rw [hwr]
    clear hwr
    by_cases hlt : k < n
    · obtain ⟨a, ha⟩ : ∃ p, least[k]? = some p := ⟨_, List.getElem?_eq_getElem (by have := HN.out; omega)⟩
      obtain ⟨p, hp⟩ : ∃ p, grow[k]? = some p := ⟨_, List.getElem?_eq_getElem (by have := HN.out; omega)⟩
      obtain ⟨b, o, cap', ee, c0⟩ := num_get (HVL.out.kept K1.out) ha
      rw [HN.out.1] at ee
      cases ee
      obtain ⟨b2, o2, cap2, ee, c2⟩ := num_get (HVG.out.kept K1.out) hp
      rw [HN.out.2.1] at ee
      cases ee
      have hab := HP.out.2.2.1 a (List.mem_of_getElem? ha)
      have hpb := HP.out.2.2.2 p (List.mem_of_getElem? hp)
      have hs1 := sum_take ha
      have hs2 := sum_take hp
      have hb5 := sum_bd (l := least.take (k + 1)) (B := 10000) (k + 1) (fun x hx => HP.out.2.2.1 x (List.mem_of_mem_take hx)) (by rw [List.length_take]; have := HN.out; omega)
      have hb6 := sum_bd (l := grow.take (k + 1)) (B := 1000) (k + 1) (fun x hx => HP.out.2.2.2 x (List.mem_of_mem_take hx)) (by rw [List.length_take]; have := HN.out; omega)
      have HE2 : Hid (Lf - a = room - (least.take (k + 1)).sum ∧ Gs + p = (grow.take (k + 1)).sum) := show _ ∧ _ from ⟨by have := HE.out; omega, by have := HE.out; omega⟩
      have hbx : (-400000 ≤ Lf - a ∧ Lf - a ≤ 10000) ∧ (0 ≤ Gs + p ∧ Gs + p ≤ 40000) := by have := HE2.out; omega
      have z1 : (0 : Int) ≤ (k : Int) := by omega
      have z2 : (k : Int) < (n : Int) := by omega
      obtain ⟨hab1, hab2⟩ := hab
      obtain ⟨hpb1, hpb2⟩ := hpb
      clear hs1 hs2 hb5 hb6 ha hp HE
      repeat (first | go_values | go_skip | go_guarded | go_step | go_upon)
      exact ⟨⟨by trivial, k + 1, Lf - a, Gs + p, hlt, by go_num, rfl, rfl, HE2, hbx.1, hbx.2⟩, by simp [intOf]; omega⟩
    · have hke : k = n := by omega
      subst hke
      have hE : Lf = room - least.sum ∧ Gs = grow.sum := by
        have h := HE.out
        rw [List.take_of_length_le (by have := HN.out; omega), List.take_of_length_le (by have := HN.out; omega)] at h
        exact h
      have HE3 : Hid (Lf = room - least.sum ∧ Gs = grow.sum) := hE
      clear HE hE hlt hk
      by_cases q1 : Lf ≤ 0
      · have d1 : decide (Lf ≤ 0) = true := decide_eq_true q1
        have hA : shA room least grow = least := if_pos (.inl (by have := HE3.out; omega))
        have HA : Hid (shA room least grow = least) := hA
        clear hA
        repeat (first | go_values | go_skip | go_guarded | go_step | go_upon)
        go_ret
        exact ⟨_, rfl, by rw [HA.out]; exact HOS.out, K1.out⟩
      have d1 : decide (Lf ≤ 0) = false := decide_eq_false q1
      by_cases q2 : Gs = 0
      · have d2 : (Gs == 0) = true := by simp [q2]
        have hA : shA room least grow = least := if_pos (.inr (by have := HE3.out; omega))
        have HA : Hid (shA room least grow = least) := hA
        clear hA q2
        repeat (first | go_values | go_skip | go_guarded | go_step | go_upon)
        go_ret
        exact ⟨_, rfl, by rw [HA.out]; exact HOS.out, K1.out⟩
      have d2 : (Gs == 0) = false := by simp [q2]
      have hn1 : 1 ≤ k := by
        cases hg : grow with
        | nil => exact absurd (by have := HE3.out.2; rw [hg] at this; simpa using this) q2
        | cons a l => have := HN.out.2.1; rw [hg] at this; simp at this; omega
      have hgp : 0 < grow.sum := by have := HE3.out; omega
      have hov := over_bd Lf grow hgp (by have := HN.out; omega)
      rw [← HE3.out.2] at hov
      have hA : shA room least grow = bumpL (basL Lf Gs least grow) ((ordD (rAt (rstL Lf Gs grow)) k).take (Lf - (shrL Lf Gs grow).sum).toNat) := by
        have h := HE3.out
        unfold shA
        rw [if_neg (by rw [← h.1, ← h.2]; omega), ← h.1, ← h.2, HN.out.2.1]
      have HA : Hid (shA room least grow = bumpL (basL Lf Gs least grow) ((ordD (rAt (rstL Lf Gs grow)) k).take (Lf - (shrL Lf Gs grow).sum).toNat)) := hA
      have HOV : Hid (0 ≤ Lf - (shrL Lf Gs grow).sum ∧ Lf - (shrL Lf Gs grow).sum < (k : Int)) := by
        have e : 0 ≤ Lf - (shrL Lf Gs grow).sum ∧ Lf - (shrL Lf Gs grow).sum < (k : Int) := by
          have h9 := HN.out.2.1
          rw [h9] at hov
          exact hov
        exact e
      obtain ⟨gS, capS, hfs, hgs1, hgs2⟩ := num_form HOS.out (by have := HN.out; omega)
      rw [HN.out.1] at hfs
      cases hfs
      clear hA hov hgp
      repeat (first | go_values | go_skip | go_guarded | go_step | go_upon)
      go_loopw [10, 46] (fun ov iv wr => ∃ (j : Nat) (Ov : Int), j ≤ k ∧ iv = .int .i64 j ∧ ov = .int .i64 Ov ∧ Hid (Ov = Lf - ((shrL Lf Gs grow).take j).sum) ∧ (-10000000000 ≤ Ov ∧ Ov ≤ 10000) ∧ NumO wr w.heap.size w1.heap.size (.slice (some ⟨gS, 0, none⟩) k capv) (mix (basL Lf Gs least grow) least j) ∧ Kept w wr ∧ w1.heap.size ≤ wr.heap.size) (fun ov iv _ => k - (intOf iv).toNat)
      case atStart => exact ⟨0, Lf, by omega, rfl, rfl, (show Lf = Lf - ((shrL Lf Gs grow).take 0).sum from by simp), by omega, by rw [mix_zero]; exact HOS.out, K1.out, Nat.le_refl _⟩
      case round =>
        obtain ⟨j, Ov, hj, rfl, rfl, HO, ⟨ho1, ho2⟩, hos, hkp, hw1r⟩ := hrel
        have hbl : (basL Lf Gs least grow).length = k := by rw [bas_len (by have := HN.out; omega)]; exact HN.out.1
        by_cases hjl : j < k
        · obtain ⟨a, ha⟩ : ∃ p, least[j]? = some p := ⟨_, List.getElem?_eq_getElem (by have := HN.out; omega)⟩
          obtain ⟨p, hp⟩ : ∃ p, grow[j]? = some p := ⟨_, List.getElem?_eq_getElem (by have := HN.out; omega)⟩
          obtain ⟨b2, o2, cap2, ee, c2⟩ := num_get (HVG.out.kept hkp) hp
          rw [HN.out.2.1] at ee
          cases ee
          have hab := HP.out.2.2.1 a (List.mem_of_getElem? ha)
          have hpb := HP.out.2.2.2 p (List.mem_of_getElem? hp)
          have hpr := prod_bd (x := Lf) (y := p) (A := 10000) (B := 1000) (by omega) hpb
          have hq1 : 0 ≤ Lf * p / Gs := Int.ediv_nonneg hpr.1 hb3
          have hq2 : Lf * p / Gs ≤ Lf * p := Int.ediv_le_self _ hpr.1
          have t1 : (Lf * p).tdiv Gs = Lf * p / Gs := Int.tdiv_eq_ediv_of_nonneg hpr.1
          have hms : (mix (basL Lf Gs least grow) least j)[j]? = some a := by rw [mix_get _ _ _ (by rw [hbl]; exact HN.out.1.symm) (by have := HN.out; omega)]; exact ha
          have hls : (mix (basL Lf Gs least grow) least j).length = k := by rw [mix_len _ _ _ (by rw [hbl]; exact HN.out.1.symm) (by have := HN.out; omega)]; exact HN.out.1
          have hos2 := hos.set hls.symm hms (a + Lf * p / Gs)
          have bS := (But.refl w.heap.size w1.heap.size wr).setCell (p := ⟨gS, j, none⟩) hgs1 hgs2 (.int .i64 (a + Lf * p / Gs))
          obtain ⟨f2, fz2⟩ := hos.cells hms
          have z4 := fz2 j
          have hst2 := mix_set (basL Lf Gs least grow) least j (a + Lf * p / Gs) (by rw [hbl]; exact HN.out.1.symm) (bas_get ha hp)
          rw [hst2] at hos2
          have c2' : (wr.setCell ⟨gS, j, none⟩ (.int .i64 (a + Lf * p / Gs))).cell? ⟨b2, o2 + j, none⟩ = some (.int .i64 p) := by
            have := num_get (HVG.out.kept (hkp.onto bS (Nat.le_refl _))) hp
            obtain ⟨b9, o9, cap9, e9, c9⟩ := this
            rw [HN.out.2.1] at e9
            cases e9
            exact c9
          have HK2 : Hid (Kept w (wr.setCell ⟨gS, j, none⟩ (.int .i64 (a + Lf * p / Gs)))) := hkp.onto bS (Nat.le_refl _)
          have HS2 : Hid (NumO (wr.setCell ⟨gS, j, none⟩ (.int .i64 (a + Lf * p / Gs))) w.heap.size w1.heap.size (.slice (some ⟨gS, 0, none⟩) k capv) (mix (basL Lf Gs least grow) least (j + 1))) := hos2
          have hsb := sum_bd (l := (shrL Lf Gs grow).take (j + 1)) (B := 10000000) (j + 1) (fun x hx => by
            have hx2 := List.mem_of_mem_take hx
            unfold shrL at hx2
            obtain ⟨y, hy, rfl⟩ := List.mem_map.1 hx2
            have h1 := HP.out.2.2.2 y hy
            have h2 := prod_bd (x := Lf) (y := y) (A := 10000) (B := 1000) (by omega) h1
            exact ⟨Int.ediv_nonneg h2.1 hb3, by have := Int.ediv_le_self Gs h2.1; omega⟩) (by rw [List.length_take]; simp only [shrL, List.length_map]; have := HN.out; omega)
          have HO2 : Hid (Ov - Lf * p / Gs = Lf - ((shrL Lf Gs grow).take (j + 1)).sum) := show _ = _ from by rw [shr_take hp]; have := HO.out; omega
          have hob : -10000000000 ≤ Ov - Lf * p / Gs ∧ Ov - Lf * p / Gs ≤ 10000 := by have := HO2.out; omega
          obtain ⟨hpr1, hpr2⟩ := hpr
          obtain ⟨hab1, hab2⟩ := hab
          obtain ⟨hpb1, hpb2⟩ := hpb
          have e1 : IntKind.i64.wrap (Lf * p) = Lf * p := IntWalk.i64_in _ (by omega)
          clear hos hos2 bS fz2 hst2 hms hls hbl ha hp hsb HO hkp
          generalize hsh : Lf * p / Gs = sh at *
          generalize hpp : Lf * p = pr at *
          clear hsh
          have e3 : IntKind.i64.wrap sh = sh := IntWalk.i64_in _ (by omega)
          have e1' : wrap64 pr = pr := by unfold wrap64; omega
          have e3' : wrap64 sh = sh := by unfold wrap64; omega
          have e5 : IntKind.i64.wrap (a + sh) = a + sh := IntWalk.i64_in _ (by omega)
          have e5' : wrap64 (a + sh) = a + sh := by unfold wrap64; omega
          have z1 : (0 : Int) ≤ (j : Int) := by omega
          have z2 : (j : Int) < (k : Int) := by omega
          repeat (first | go_values | go_skip | go_guarded | go_step | go_upon)
          go_big_region
          repeat (first | go_values | go_skip | go_guarded | go_step | go_upon)
          exact ⟨⟨j + 1, Ov - sh, hjl, by go_num, rfl, HO2, hob, HS2.out.kept ((But.refl _ _ _).drew), HK2.out.drew, by simpa using hw1r⟩, by simp [intOf]; omega⟩
        · have hje : j = k := by omega
          subst hje
          rw [mix_all _ _ _ hbl HN.out.1] at hos
          have hOv : Ov = Lf - (shrL Lf Gs grow).sum := by
            have h := HO.out
            rw [List.take_of_length_le (by simp only [shrL, List.length_map]; have := HN.out; omega)] at h
            exact h
          have hob : 0 ≤ Ov ∧ Ov < (j : Int) := by rw [hOv]; exact HOV.out
          obtain ⟨m, rfl⟩ : ∃ m : Nat, Ov = (m : Int) := ⟨Ov.toNat, by omega⟩
          obtain ⟨D, hD⟩ : ∃ D, ordD (rAt (rstL Lf Gs grow)) j = D := ⟨_, rfl⟩
          have HDD : Hid (D.Perm (pl j) ∧ Srt (rAt (rstL Lf Gs grow)) D ∧ D.length = j) := show _ ∧ _ ∧ _ from ⟨by rw [← hD]; exact ordD_perm _ _, by rw [← hD]; exact ordD_srt _ _, by rw [← hD]; exact ordD_len _ _⟩
          have HA2 : Hid (shA room least grow = bumpL (basL Lf Gs least grow) (D.take m)) := show _ = _ from by rw [HA.out, ← hOv, Int.toNat_natCast, hD]
          have hbb := bas_bd (left := Lf) (gs := Gs) (by omega) hb3 least grow HP.out.2.2.1 HP.out.2.2.2
          have HBB : Hid (∀ x ∈ basL Lf Gs least grow, 0 ≤ x ∧ x ≤ 20000000) := hbb
          have HBL : Hid ((basL Lf Gs least grow).length = j) := hbl
          have HRG : Hid (∀ (i : Nat) (p : Int), grow[i]? = some p → rAt (rstL Lf Gs grow) (i : Int) = Lf * p % Gs) := fun i p h => rAt_get h
          have HS0 : Hid (NumO wr w.heap.size w1.heap.size (.slice (some ⟨gS, 0, none⟩) j capv) (basL Lf Gs least grow)) := hos
          have HK0 : Hid (Kept w wr) := hkp
          have s2 := hkp.size
          have hmj : m < j := by omega
          obtain ⟨i0, hi, hz0, hz1, hz2⟩ := info_parts info_flag
          have hmk : (Instr.makeSlice 71 (.int .i64 (j : Int)) (.int .i64 (j : Int))).run Try.prog wr = .ok (.slice (some ⟨wr.heap.size, 0, none⟩) j j) (wr.alloc (.cells (madeCells #[.bool false] (j * 1)) 4)) := by
            have := run_make (P := Try.prog) wr 71 4 i0 _ Try.underlying71 hi hz0 .i64 .i64 (j : Int) (j : Int) (by omega) (by omega) (by rw [hz2]; omega) (by omega)
            rw [this, hz1]
            simp [Value.cells]
          have hm := row_made wr wr.heap.size 4 #[.bool false] 1 (by omega) flagC flag0 flagC_len rfl j (Nat.le_refl _) (by unfold maxLen; omega)
          have HM : Hid (FlagO (wr.alloc (.cells (madeCells #[.bool false] (j * 1)) 4)) wr.heap.size (wr.heap.size + 1) (.slice (some ⟨wr.heap.size, 0, none⟩) j j) (flg D 0 j)) := by
            have e : FlagO (wr.alloc (.cells (madeCells #[.bool false] (j * 1)) 4)) wr.heap.size (wr.heap.size + 1) (.slice (some ⟨wr.heap.size, 0, none⟩) j j) (flg D 0 j) := by
              rw [flg_zero]
              simpa [FlagO, flag0] using hm
            exact e
          clear hos hOv hob hbb hbl hkp HO HA HOV hjl hj ho1 ho2 hD hm hi hz0 hz1 hz2
          generalize rstL Lf Gs grow = RS at *
          generalize basL Lf Gs least grow = BS at *
          repeat (first | go_values | go_skip | go_guarded | go_step | go_upon)
          clear hmk
          rename World => wm
          go_loopw [10, 13] (fun lv bv wr => ∃ q : Nat, q ≤ m ∧ lv = .int .i64 ((m - q : Nat) : Int) ∧ NumO wr w.heap.size w1.heap.size (.slice (some ⟨gS, 0, none⟩) j capv) (bumpL BS (D.take q)) ∧ Hid (∀ x ∈ bumpL BS (D.take q), 0 ≤ x ∧ x ≤ 20000000 + (q : Int)) ∧ FlagO wr wm.heap.size (wm.heap.size + 1) (.slice (some ⟨wm.heap.size, 0, none⟩) j j) (flg D q j) ∧ Kept w wr) (fun lv bv _ => (intOf lv).toNat)
          case atStart => exact ⟨0, by omega, by simp, HS0.out.kept ((But.refl _ _ _).alloc _), (show ∀ x ∈ bumpL BS (D.take 0), 0 ≤ x ∧ x ≤ 20000000 + ((0 : Nat) : Int) from fun x hx => by have := HBB.out x hx; omega), by simpa using HM.out, HK0.out.alloc _⟩
          case round =>
            obtain ⟨q, hq, rfl, hos, HQ, hof, hkp⟩ := hrel
            clear HS0 HK0 HM
            have HOS3 : Hid (NumO wr w.heap.size w1.heap.size (.slice (some ⟨gS, 0, none⟩) j capv) (bumpL BS (D.take q))) := hos
            have HOF : Hid (FlagO wr wm.heap.size (wm.heap.size + 1) (.slice (some ⟨wm.heap.size, 0, none⟩) j j) (flg D q j)) := hof
            have HK : Hid (Kept w wr) := hkp
            have s4 := hkp.size
            clear hos hof hkp
            by_cases hqm : q < m
            · have d5 : decide ((0 : Int) < ((m - q : Nat) : Int)) = true := decide_eq_true (by omega)
              have d5' : decide (0 < m - q) = true := decide_eq_true (by omega)
              have d5'' : decide (q < m) = true := decide_eq_true hqm
              repeat (first | go_values | go_skip | go_guarded | go_step | go_upon)
              rename World => wi
              go_loopw [13, 83] (fun bv iv wr => ∃ (i : Nat) (Bt : Int), i ≤ j ∧ iv = .int .i64 i ∧ bv = .int .i64 Bt ∧ Hid (Sel (rAt RS) D q i Bt) ∧ (Bt = -1 ∨ ∃ t : Nat, Bt = (t : Int) ∧ t < j) ∧ NumO wr w.heap.size w1.heap.size (.slice (some ⟨gS, 0, none⟩) j capv) (bumpL BS (D.take q)) ∧ FlagO wr wm.heap.size (wm.heap.size + 1) (.slice (some ⟨wm.heap.size, 0, none⟩) j j) (flg D q j) ∧ Kept w wr) (fun bv iv _ => j - (intOf iv).toNat)
              case atStart => exact ⟨0, -1, by omega, rfl, rfl, (show Sel (rAt RS) D q 0 (-1) from .inl ⟨rfl, fun i hi => by omega⟩), .inl rfl, HOS3.out, HOF.out, HK.out⟩
              case round =>
                obtain ⟨i, Bt, hij, rfl, rfl, HSL, hbt, hos, hof, hkp⟩ := hrel
                clear HOS3 HOF HK
                by_cases hil : i < j
                · obtain ⟨p, hp⟩ : ∃ p, grow[i]? = some p := ⟨_, List.getElem?_eq_getElem (by have := HN.out; omega)⟩
                  obtain ⟨b2, o2, cap2, ee, c2⟩ := num_get (HVG.out.kept hkp) hp
                  rw [HN.out.2.1] at ee
                  cases ee
                  obtain ⟨f1, _⟩ := hof.cells (flg_get D q j i hil)
                  have hpb := HP.out.2.2.2 p (List.mem_of_getElem? hp)
                  have hpr := prod_bd (x := Lf) (y := p) (A := 10000) (B := 1000) (by omega) hpb
                  have hri := HRG.out i p hp
                  have hg1 : wm.heap.size < wr.heap.size := World.block_lt_of_cell? _ _ f1
                  have hg2 : b2 < wr.heap.size := World.block_lt_of_cell? _ _ c2
                  have HOS3 : Hid (NumO wr w.heap.size w1.heap.size (.slice (some ⟨gS, 0, none⟩) j capv) (bumpL BS (D.take q))) := hos
                  have HOF : Hid (FlagO wr wm.heap.size (wm.heap.size + 1) (.slice (some ⟨wm.heap.size, 0, none⟩) j j) (flg D q j)) := hof
                  have HK : Hid (Kept w wr) := hkp
                  have z1 : (0 : Int) ≤ (i : Int) := by omega
                  have z2 : (i : Int) < (j : Int) := by omega
                  cases hfl : (D.take q).contains (i : Int) with
                  | true =>
                    rw [hfl] at f1
                    have HS2 : Hid (Sel (rAt RS) D q (i + 1) Bt) := sel_had HSL.out hfl
                    clear hos hof hkp hfl HSL hri hp
                    repeat (first | go_values | go_skip | go_guarded | go_step | go_upon)
                    refine wp_region_kept (by kernel_rfl) (by kernel_rfl) ?_
                    have hcc := @KW.cell_eq
                    repeat (go_big_quiet_step (first | fail))
                    refine wpQuiet_nil ?_
                    rintro w5 ⟨⟨w8, k5⟩, h9⟩
                    change w5 = w8 at h9
                    subst h9
                    clear hcc
                    repeat (first | go_values | go_skip | go_guarded | go_step | go_upon)
                    exact ⟨⟨i + 1, Bt, hil, by go_num, rfl, HS2, hbt, HOS3.out.kept k5, HOF.out.kept k5, HK.out.trans k5⟩, by simp [intOf]; omega⟩
                  | false =>
                    rw [hfl] at f1
                    rcases hbt with hbt | ⟨t, hbt, htj⟩
                    · subst hbt
                      have HS2 : Hid (Sel (rAt RS) D q (i + 1) (i : Int)) := sel_first HSL.out hfl
                      clear hos hof hkp hfl HSL hri hp
                      repeat (first | go_values | go_skip | go_guarded | go_step | go_upon)
                      refine wp_region_kept (by kernel_rfl) (by kernel_rfl) ?_
                      have hcc := @KW.cell_eq
                      repeat (go_big_quiet_step (first | fail))
                      refine wpQuiet_nil ?_
                      rintro w5 ⟨⟨w8, k5⟩, h9⟩
                      change w5 = w8 at h9
                      subst h9
                      clear hcc
                      repeat (first | go_values | go_skip | go_guarded | go_step | go_upon)
                      exact ⟨⟨i + 1, (i : Int), hil, by go_num, rfl, HS2, .inr ⟨i, rfl, hil⟩, HOS3.out.kept k5, HOF.out.kept k5, HK.out.trans k5⟩, by simp [intOf]; omega⟩
                    · subst hbt
                      obtain ⟨p2, hp2⟩ : ∃ p, grow[t]? = some p := ⟨_, List.getElem?_eq_getElem (by have := HN.out; omega)⟩
                      obtain ⟨b3, o3, cap3, ee, c3⟩ := num_get (HVG.out.kept hkp) hp2
                      rw [HN.out.2.1] at ee
                      cases ee
                      have hpb2 := HP.out.2.2.2 p2 (List.mem_of_getElem? hp2)
                      have hpr2 := prod_bd (x := Lf) (y := p2) (A := 10000) (B := 1000) (by omega) hpb2
                      have hrt := HRG.out t p2 hp2
                      have t1 : (Lf * p).tmod Gs = Lf * p % Gs := Int.tmod_eq_emod_of_nonneg hpr.1
                      have t2 : (Lf * p2).tmod Gs = Lf * p2 % Gs := Int.tmod_eq_emod_of_nonneg hpr2.1
                      have h1 : 0 ≤ Lf * p % Gs := Int.emod_nonneg _ q2
                      have h2 : Lf * p % Gs < Gs := Int.emod_lt_of_pos _ (by omega)
                      have h3 : 0 ≤ Lf * p2 % Gs := Int.emod_nonneg _ q2
                      have h4 : Lf * p2 % Gs < Gs := Int.emod_lt_of_pos _ (by omega)
                      have HSM : Hid (Lf * p2 % Gs < Lf * p % Gs → Sel (rAt RS) D q (i + 1) (i : Int)) := fun h => sel_more HSL.out hfl (by rw [hri, hrt]; exact h)
                      have HSN : Hid (¬ Lf * p2 % Gs < Lf * p % Gs → Sel (rAt RS) D q (i + 1) (t : Int)) := fun h => sel_less HSL.out (by rw [hri, hrt]; exact h)
                      have y1 : (0 : Int) ≤ (t : Int) := by omega
                      have y2 : (t : Int) < (j : Int) := by omega
                      have dt : decide ((t : Int) < 0) = false := decide_eq_false (by omega)
                      clear hos hof hkp hfl HSL hri hrt hp hp2 hpb hpb2
                      obtain ⟨hpr1, hpr2'⟩ := hpr
                      obtain ⟨hpr3, hpr4⟩ := hpr2
                      generalize hrs1 : Lf * p % Gs = rs1 at *
                      generalize hrs2 : Lf * p2 % Gs = rs2 at *
                      generalize hpp1 : Lf * p = pr1 at *
                      generalize hpp2 : Lf * p2 = pr2 at *
                      clear hrs1 hrs2
                      have e1 : wrap64 pr1 = pr1 := by unfold wrap64; omega
                      have e2 : wrap64 pr2 = pr2 := by unfold wrap64; omega
                      have e1' : IntKind.i64.wrap pr1 = pr1 := IntWalk.i64_in _ (by omega)
                      have e2' : IntKind.i64.wrap pr2 = pr2 := IntWalk.i64_in _ (by omega)
                      have e3 : wrap64 rs1 = rs1 := by unfold wrap64; omega
                      have e4 : wrap64 rs2 = rs2 := by unfold wrap64; omega
                      have e3' : IntKind.i64.wrap rs1 = rs1 := IntWalk.i64_in _ (by omega)
                      have e4' : IntKind.i64.wrap rs2 = rs2 := IntWalk.i64_in _ (by omega)
                      by_cases hcm : rs2 < rs1
                      · have dc : decide (rs2 < rs1) = true := decide_eq_true hcm
                        have HS2 : Hid (Sel (rAt RS) D q (i + 1) (i : Int)) := HSM.out hcm
                        clear HSM HSN
                        repeat (first | go_values | go_skip | go_guarded | go_step | go_upon)
                        refine wp_region_kept (by kernel_rfl) (by kernel_rfl) ?_
                        have hcc := @KW.cell_eq
                        repeat (go_big_quiet_step (first | fail))
                        refine wpQuiet_nil ?_
                        rintro w5 ⟨⟨w8, k5⟩, h9⟩
                        change w5 = w8 at h9
                        subst h9
                        clear hcc
                        repeat (first | go_values | go_skip | go_guarded | go_step | go_upon)
                        exact ⟨⟨i + 1, (i : Int), hil, by go_num, rfl, HS2, .inr ⟨i, rfl, hil⟩, HOS3.out.kept k5, HOF.out.kept k5, HK.out.trans k5⟩, by simp [intOf]; omega⟩
                      · have dc : decide (rs2 < rs1) = false := decide_eq_false hcm
                        have HS2 : Hid (Sel (rAt RS) D q (i + 1) (t : Int)) := HSN.out hcm
                        clear HSM HSN
                        repeat (first | go_values | go_skip | go_guarded | go_step | go_upon)
                        refine wp_region_kept (by kernel_rfl) (by kernel_rfl) ?_
                        have hcc := @KW.cell_eq
                        repeat (go_big_quiet_step (first | fail))
                        refine wpQuiet_nil ?_
                        rintro w5 ⟨⟨w8, k5⟩, h9⟩
                        change w5 = w8 at h9
                        subst h9
                        clear hcc
                        repeat (first | go_values | go_skip | go_guarded | go_step | go_upon)
                        exact ⟨⟨i + 1, (t : Int), hil, by go_num, rfl, HS2, .inr ⟨t, rfl, htj⟩, HOS3.out.kept k5, HOF.out.kept k5, HK.out.trans k5⟩, by simp [intOf]; omega⟩
                · have hie : i = j := by omega
                  subst hie
                  obtain ⟨d, hd⟩ : ∃ d, D[q]? = some d := ⟨_, List.getElem?_eq_getElem (by have := HDD.out.2.2; omega)⟩
                  obtain ⟨t, rfl, hti, htc, htm⟩ : ∃ t : Nat, Bt = (t : Int) ∧ t < i ∧ (D.take q).contains (t : Int) = false ∧ ∀ i' : Nat, i' < i → (D.take q).contains (i' : Int) = false → i' = t ∨ bef (rAt RS) (t : Int) (i' : Int) := by
                    rcases HSL.out with ⟨_, h2⟩ | h
                    · exfalso
                      have hdr := pl_rng i d (HDD.out.1.mem_iff.1 (List.mem_of_getElem? hd))
                      have h3 := h2 d.toNat (by omega)
                      rw [show ((d.toNat : Nat) : Int) = d by omega] at h3
                      have h4 : d ∈ D.take q := by simpa using h3
                      have hnd : D.Nodup := HDD.out.1.nodup_iff.2 (pl_nodup i)
                      have e : D = D.take q ++ D.drop q := (List.take_append_drop _ _).symm
                      rw [e] at hnd
                      have hdd : d ∈ D.drop q := List.mem_iff_getElem?.2 ⟨0, by rw [List.getElem?_drop]; simpa using hd⟩
                      exact (List.nodup_append.1 hnd).2.2 d h4 d hdd rfl
                    · exact h
                  have hdt := sel_is HDD.out.1 HDD.out.2.1 hd hti htc htm
                  subst hdt
                  have hbl2 : (bumpL BS (D.take q)).length = i := by rw [bumpL_len]; exact HBL.out
                  obtain ⟨x, hx⟩ : ∃ x, (bumpL BS (D.take q))[t]? = some x := ⟨_, List.getElem?_eq_getElem (by omega)⟩
                  have hxb := HQ.out x (List.mem_of_getElem? hx)
                  obtain ⟨f1, fz1⟩ := hof.cells (flg_get D q i t hti)
                  have z3 := fz1 t
                  have hof2 := hof.set (flg_len D q i).symm (flg_get D q i t hti) true
                  rw [flg_set hd hti] at hof2
                  have bF := (But.refl wm.heap.size (wm.heap.size + 1) wr).setCell (p := ⟨wm.heap.size, t, none⟩) (Nat.le_refl _) (by simp) (.bool true)
                  have hos1 := hos.but bF (by omega)
                  obtain ⟨f2, fz2⟩ := hos1.cells hx
                  have z4 := fz2 t
                  have hos2 := hos1.set hbl2.symm hx (x + 1)
                  have hbs : (bumpL BS (D.take q)).set t (x + 1) = bumpL BS (D.take (q + 1)) := by
                    rw [take_snoc hd, bumpL_snoc]
                    unfold bump
                    rw [Int.toNat_natCast, hx]
                    rfl
                  rw [hbs] at hos2
                  have bS := (But.refl w.heap.size w1.heap.size (wr.setCell ⟨wm.heap.size, t, none⟩ (.bool true))).setCell (p := ⟨gS, t, none⟩) hgs1 hgs2 (.int .i64 (x + 1))
                  have hof3 := hof2.but bS (by omega)
                  have HF1 : Hid (NumO ((wr.setCell ⟨wm.heap.size, t, none⟩ (.bool true)).setCell ⟨gS, t, none⟩ (.int .i64 (x + 1))) w.heap.size w1.heap.size (.slice (some ⟨gS, 0, none⟩) i capv) (bumpL BS (D.take (q + 1)))) := hos2
                  have HF2 : Hid (FlagO ((wr.setCell ⟨wm.heap.size, t, none⟩ (.bool true)).setCell ⟨gS, t, none⟩ (.int .i64 (x + 1))) wm.heap.size (wm.heap.size + 1) (.slice (some ⟨wm.heap.size, 0, none⟩) i i) (flg D (q + 1) i)) := hof3
                  have HF3 : Hid (Kept w ((wr.setCell ⟨wm.heap.size, t, none⟩ (.bool true)).setCell ⟨gS, t, none⟩ (.int .i64 (x + 1)))) := (hkp.onto bF (by omega)).onto bS (Nat.le_refl _)
                  have HQ2 : Hid (∀ y ∈ bumpL BS (D.take (q + 1)), 0 ≤ y ∧ y ≤ 20000000 + ((q + 1 : Nat) : Int)) := fun y hy => by
                    rw [take_snoc hd, bumpL_snoc] at hy
                    have := bump_bd HQ.out (by omega) y hy
                    omega
                  obtain ⟨hxb1, hxb2⟩ := hxb
                  have y1 : (0 : Int) ≤ (t : Int) := by omega
                  have y2 : (t : Int) < (i : Int) := by omega
                  have em : IntKind.i64.wrap (((m - q : Nat) : Int) - 1) = ((m - (q + 1) : Nat) : Int) := by rw [IntWalk.i64_in _ (by omega)]; omega
                  generalize hmq : m - q = mq at *
                  generalize hmq1 : m - (q + 1) = mq1 at *
                  have HMQ : Hid (mq1 + 1 = mq) := show _ = _ from by omega
                  clear hos hos1 hos2 hof hof2 hof3 hkp bS bF hbs fz1 fz2 hd hx HQ hbl2 HSL htm htc hbt hmq d5 d5' d5''
                  repeat (first | go_values | go_skip | go_guarded | go_step | go_upon)
                  exact ⟨⟨q + 1, by omega, by rw [hmq1], HF1.out, HQ2, HF2.out, HF3.out⟩, by simp [intOf]; have := HMQ.out; omega⟩
            · have hqe : q = m := by omega
              subst hqe
              have d5 : decide ((0 : Int) < ((q - q : Nat) : Int)) = false := decide_eq_false (by omega)
              have d5' : decide (0 < q - q) = false := decide_eq_false (by omega)
              repeat (first | go_values | go_skip | go_guarded | go_step | go_upon)
              go_ret
              exact ⟨_, rfl, by rw [HA2.out]; exact NumO.low HOS3.out, HK.out⟩

end Go.Proofs.Ytaofilinejanjaa
