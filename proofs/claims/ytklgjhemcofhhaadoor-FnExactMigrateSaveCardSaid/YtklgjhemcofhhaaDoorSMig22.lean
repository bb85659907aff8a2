/-
  What MigrateSave of the specification answers.
-/
import Derived.Test.YtklgjhemcofhhaaDoorMigS22
import Derived.Test.YtklgjhemcofhhaaDoorSAt22
import Derived.Test.YtklgjhemcofhhaaDoorSPut22
import Derived.Test.YtklgjhemcofhhaaDoorSDrop22
import Derived.Test.YtklgjhemcofhhaaDoorSTurn22
import Derived.Test.YtklgjhemcofhhaaDoorSGood22
import Derived.Test.YtklgjhemcofhhaaDoorSGoodC22
import Derived.Test.YtklgjhemcofhhaaDoorApp22
import Derived.Deep.RegionHeld3
namespace Go.Proofs.YtklgjhemcofhhaaDoor
open Go.ChangeShapes Go.WideShapes Go.ChangeAt Go.RowKit

set_option maxRecDepth 100000
set_option linter.unusedVariables false
set_option linter.unusedSimpArgs false

set_option maxHeartbeats 16000000 in
theorem smigrate (ver : Int) (l : List ValD) (cs : List ChgD) (v v2 : Value) (w : World) (hv : ValAt w v l) (hc : ChgAt w v2 cs) (hn : l.length ≤ 1048576) (hs0 : ∀ d ∈ l, d.1.size ≤ 1048576 ∧ d.2.2.size ≤ 1048576) (hr : ∀ d ∈ l, InR d.2.1) (hcn : cs.length ≤ 1048576) (hcs : ∀ d ∈ cs, d.2.2.1.size ≤ 1048576 ∧ d.2.2.2.1.size ≤ 1048576) :
    Calls Tryd.prog 15 #[.int .i64 ver, v, v2] w fun e w' => ∃ v', e = .returned (.tuple #[v', .bool (migR ver l cs).isSome]) ∧ ValO w' w.heap.size w'.heap.size v' ((migR ver l cs).getD []) ∧ Kept w w' := by
  obtain ⟨av, cv, hsl⟩ := row_nil hv
  subst hsl
  obtain ⟨ac, cc, hsl⟩ := row_nil hc
  subst hsl
  have AG : Hid (∀ W, Kept w W → Calls Tryd.prog 25 #[.slice av l.length cv] W fun e w' => e = .returned (.bool (decide (ValsP l))) ∧ Kept W w') := fun W k => sgoodv l _ W (hv.kept k) hn hs0
  have AC : Hid (∀ W, Kept w W → Calls Tryd.prog 32 #[.slice ac cs.length cc] W fun e w' => e = .returned (.bool (decide (ChgsP cs))) ∧ Kept W w') := fun W k => sgoodc cs _ W (hc.kept k) hcn hcs
  by_cases h1 : 1 ≤ ver ∧ ver ≤ 3
  case neg =>
    rw [show migR ver l cs = none from if_neg (fun h => h1 h.1)]
    have d1 : decide (1 ≤ ver ∧ ver ≤ 3) = false := decide_eq_false h1
    clear h1 AG AC
    go_enter Tryd.func15, Tryd.ntmps15
    repeat (first | (go_at_call 24; refine (sInG _ _ _ _).mono ?_; rintro e w3 ⟨rfl, hw3⟩; rw [hw3]; clear hw3 w3; rw [d1]; dsimp only) | go_values | go_skip | go_guarded | go_step | go_upon)
    go_ret2
    exact ⟨_, rfl, nil_val _ _ _, But.refl _ _ _⟩
  have d1 : decide (1 ≤ ver ∧ ver ≤ 3) = true := decide_eq_true h1
  by_cases h2 : ValsP l
  case neg =>
    rw [show migR ver l cs = none from if_neg (fun h => h2 h.2.1)]
    rw [decide_eq_false h2] at AG
    clear h1 h2 AC
    go_enter Tryd.func15, Tryd.ntmps15
    repeat (first | (go_at_call 24; refine (sInG _ _ _ _).mono ?_; rintro e w3 ⟨rfl, hw3⟩; rw [hw3]; clear hw3 w3; rw [d1]; dsimp only) | go_values | go_skip | go_guarded | go_step | go_upon)
    go_at_call 25
    with_reducible refine (AG.out _ (But.refl _ _ _)).mono ?_
    rintro e w9 ⟨rfl, k9⟩
    dsimp only
    repeat (first | go_values | go_skip | go_guarded | go_step | go_upon)
    go_ret2
    exact ⟨_, rfl, nil_val _ _ _, k9⟩
  by_cases h3 : ChgsP cs
  case neg =>
    rw [show migR ver l cs = none from if_neg (fun h => h3 h.2.2)]
    rw [decide_eq_true h2] at AG
    rw [decide_eq_false h3] at AC
    clear h1 h2 h3
    go_enter Tryd.func15, Tryd.ntmps15
    repeat (first | (go_at_call 24; refine (sInG _ _ _ _).mono ?_; rintro e w3 ⟨rfl, hw3⟩; rw [hw3]; clear hw3 w3; rw [d1]; dsimp only) | go_values | go_skip | go_guarded | go_step | go_upon)
    go_at_call 25
    with_reducible refine (AG.out _ (But.refl _ _ _)).mono ?_
    rintro e w9 ⟨rfl, k9⟩
    have HK9 : Hid (Kept w w9) := k9
    clear k9
    dsimp only
    repeat (first | go_values | go_skip | go_guarded | go_step | go_upon)
    go_at_call 32
    with_reducible refine (AC.out _ HK9.out).mono ?_
    rintro e w8 ⟨rfl, k8⟩
    dsimp only
    repeat (first | go_values | go_skip | go_guarded | go_step | go_upon)
    go_ret2
    exact ⟨_, rfl, nil_val _ _ _, HK9.out.trans k8⟩
  rw [show migR ver l cs = migV ver l cs from if_pos ⟨h1, h2, h3⟩]
  rw [decide_eq_true h2] at AG
  rw [decide_eq_true h3] at AC
  have HCP : Hid (ChgsP cs) := h3
  have hl30 : l.length ≤ 30 := by have := h2.2.1; rwa [namesOf_len] at this
  have HI0 : Hid (InvL l) := ⟨up_of_keys h2.2, hl30, hr⟩
  have HV : Hid (ValAt w (.slice av l.length cv) l) := hv
  have HC : Hid (ChgAt w (.slice ac cs.length cc) cs) := hc
  have hc30 : cs.length ≤ 30 := h3.1
  obtain ⟨R, hR⟩ : ∃ R, migV ver l cs = R := ⟨_, rfl⟩
  rw [hR]
  have HR : Hid (migV ver l cs = R) := hR
  clear hR h1 h2 h3 hv hc hn hs0 hr hcn hcs
  go_enter Tryd.func15, Tryd.ntmps15
  repeat (first | (go_at_call 24; refine (sInG _ _ _ _).mono ?_; rintro e w3 ⟨rfl, hw3⟩; rw [hw3]; clear hw3 w3; rw [d1]; dsimp only) | go_values | go_skip | go_guarded | go_step | go_upon)
  go_at_call 25
  with_reducible refine (AG.out _ (But.refl _ _ _)).mono ?_
  rintro e w9 ⟨rfl, k9⟩
  have HK9 : Hid (Kept w w9) := k9
  clear k9
  dsimp only
  repeat (first | go_values | go_skip | go_guarded | go_step | go_upon)
  go_at_call 32
  with_reducible refine (AC.out _ HK9.out).mono ?_
  rintro e w8 ⟨rfl, k8⟩
  have HK8 : Hid (Kept w w8) := HK9.out.trans k8
  have s8 : w.heap.size ≤ w8.heap.size := HK8.out.size
  clear k8 AG AC
  dsimp only
  repeat (first | (at_builtin; refine forgetL (fun w' => w' = _) rfl ?_) | go_values | go_skip | go_guarded | go_step | go_upon)
  intro W7 hW7
  rw [hW7]
  clear hW7 W7
  refine app_val rfl _ _ rfl (lo := w8.heap.size) (hi := w8.heap.size + 1) rfl (empty_val _) (qs := l) rfl (HV.out.kept (HK8.out.alloc _)) rfl (by simp; omega) (by simp) ?_
  intro v5 w5 o5 b5
  have k5 : Kept w w5 := ⟨b5.os.trans (HK8.out.alloc (.cells #[] 53)).os, b5.out.trans (HK8.out.alloc (.cells #[] 53)).out, Nat.le_trans (HK8.out.alloc (.cells #[] 53)).size b5.size, fun i hi2 _ => (b5.block i (by simp; omega) (by omega)).trans ((HK8.out.alloc (.cells #[] 53)).block i hi2 (by omega))⟩
  rw [List.nil_append] at o5
  have o5 : ValO w5 w.heap.size w5.heap.size v5 l := RowO.mono o5 s8 (Nat.le_refl _)
  obtain ⟨a5, p5, hf⟩ := o5.form
  subst hf
  have O5 : Hid (ValO w5 w.heap.size w5.heap.size (.slice a5 l.length p5) l) := o5
  clear b5 s8
  repeat (first | go_values | go_skip | go_guarded | go_step | go_upon)
  go_loopw [8, 33] (fun s i wr => ∃ (k : Nat) (O : List ValD), k ≤ cs.length ∧ i = .int .i64 k ∧ Hid (migV ver O (cs.drop k) = R) ∧ InvL O ∧ ValO wr w.heap.size wr.heap.size s O ∧ Kept w wr) (fun s i _ => cs.length - (intOf i).toNat)
  case atStart => exact ⟨0, l, by omega, rfl, by show _ = _; rw [List.drop_zero]; exact HR.out, HI0.out, O5.out, k5⟩
  case round =>
    clear k5 o5 O5
    obtain ⟨k, O, hk, rfl, HM, hinv, hO, hkp⟩ := hrel
    obtain ⟨ao, co, hf⟩ := hO.form
    subst hf
    have HK : Hid (Kept w wr) := hkp
    have HO : Hid (ValO wr w.heap.size wr.heap.size (.slice ao O.length co) O) := hO
    have HIN : Hid (InvL O) := hinv
    have hO30 : O.length ≤ 30 := hinv.2.1
    have hO9 : O.length ≤ 1000 := by omega
    by_cases hlt : k < cs.length
    · obtain ⟨c, hcc⟩ : ∃ c, cs[k]? = some c := ⟨_, List.getElem?_eq_getElem hlt⟩
      obtain ⟨b, o, cap', e, c0, c1, c2, c3, c4⟩ := chg_get (HC.out.kept hkp) hcc
      cases e
      have HDR : Hid (cs.drop k = c :: cs.drop (k + 1)) := by
        obtain ⟨h1, h2⟩ := List.getElem?_eq_some_iff.1 hcc
        show _ = _
        rw [List.drop_eq_getElem_cons h1, h2]
      have hM := HM.out
      rw [HDR.out, mig_cons] at hM
      have HBY := by_range HCP.out hcc
      have HKI := kind_range HCP.out hcc
      obtain ⟨f0, f1, f2, f3, f4⟩ := c
      dsimp only at c0 c1 c2 c3 c4 hM HBY HKI
      have HMC : Hid ((if f0 < ver then migV ver O (cs.drop (k + 1)) else (stepV O (f0, f1, f2, f3, f4)).bind fun m => migV ver m (cs.drop (k + 1))) = R) := hM
      have HB : Hid (-1000000 ≤ f4 ∧ f4 ≤ 1000000) := HBY
      have HKD : Hid (f1 = 1 ∨ f1 = 2 ∨ f1 = 3 ∨ f1 = 4 ∨ f1 = 5) := HKI
      have hgw : b < wr.heap.size := World.block_lt_of_cell? _ _ c0
      clear hcc hkp hO hM HBY HKI hinv HDR HM
      have LX := Loc.new wr [.int .i64 f0, .int .i64 f1, .string f2, .string f3, .int .i64 f4] 70
      repeat (go_not_at_region 7; first | go_values | go_skip | go_guarded | go_step | go_upon)
      refine forgetX (fun W6 => Kept wr W6 ∧ Loc W6 wr.heap.size [.int .i64 f0, .int .i64 f1, .string f2, .string f3, .int .i64 f4] ∧ wr.heap.size < W6.heap.size) ⟨(But.refl _ _ _).alloc _, LX, LX.lt⟩ ?_
      intro w6 hw6
      obtain ⟨k6, LX, ls6⟩ := hw6
      obtain ⟨bb, hbb⟩ : ∃ bb, wr.heap.size = bb := ⟨_, rfl⟩
      have HO6 : Hid (ValO w6 w.heap.size bb (.slice ao O.length co) O) := by rw [← hbb]; exact HO.out.kept k6
      rw [hbb] at LX ls6 ⊢
      have HL6 : Hid (Loc w6 bb [.int .i64 f0, .int .i64 f1, .string f2, .string f3, .int .i64 f4]) := LX
      have HK6 : Hid (Kept w w6) := HK.out.trans k6
      have HS6 : Hid (bb < w6.heap.size) := ls6
      have HWB : Hid (w.heap.size ≤ bb) := by rw [← hbb]; exact HK.out.size
      clear c0 c1 c2 c3 c4 hgw k6 LX ls6 hbb HO HK
      have x0 := HL6.out.cell 0 (v := .int .i64 f0) rfl
      have x1 := HL6.out.cell 1 (v := .int .i64 f1) rfl
      have x2 := HL6.out.cell 2 (v := .string f2) rfl
      have x3 := HL6.out.cell 3 (v := .string f3) rfl
      have x4 := HL6.out.cell 4 (v := .int .i64 f4) rfl
      have xl := HL6.out.lt
      by_cases hv0 : f0 < ver
      · have dv : decide (f0 < ver) = true := decide_eq_true hv0
        have HN2 : Hid (migV ver O (cs.drop (k + 1)) = R) := by have := HMC.out; rw [if_pos hv0] at this; exact this
        clear hv0
        repeat (first | go_values | go_skip | go_guarded | go_step | go_upon)
        exact ⟨⟨k + 1, O, hlt, by go_num, HN2.out, HIN.out, RowO.mono HO6.out (Nat.le_refl _) (Nat.le_of_lt HS6.out), HK6.out⟩, by simp [intOf]; omega⟩
      have dv : decide (f0 < ver) = false := decide_eq_false hv0
      have HST : Hid (((stepV O (f0, f1, f2, f3, f4)).bind fun m => migV ver m (cs.drop (k + 1))) = R) := by have := HMC.out; rw [if_neg hv0] at this; exact this
      clear hv0 HMC
      obtain ⟨K0, hK0⟩ : ∃ K0, atI O f2 = K0 := ⟨_, rfl⟩
      have AT0 : Hid (∀ W, Kept w6 W → Calls Tryd.prog 33 #[.slice ao O.length co, .string f2] W fun e w' => e = .returned (.int .i64 K0) ∧ Kept W w') := fun W k => by rw [← hK0]; exact sat O f2 _ W (HO6.out.at.kept k) (by omega)
      have HK0 : Hid (atI O f2 = K0) := hK0
      clear hK0
      repeat (first | go_values | go_skip | go_guarded | go_step | go_upon)
      go_at_call 33
      with_reducible refine (AT0.out _ (But.refl _ _ _)).mono ?_
      rintro e w7 ⟨rfl, k7⟩
      clear AT0
      have HL7 : Hid (Loc w7 bb [.int .i64 f0, .int .i64 f1, .string f2, .string f3, .int .i64 f4]) := HL6.out.kept k7
      have HO7 : Hid (ValO w7 w.heap.size bb (.slice ao O.length co) O) := HO6.out.kept k7
      have HK7 : Hid (Kept w w7) := HK6.out.trans k7
      have HS7 : Hid (bb < w7.heap.size) := Nat.lt_of_lt_of_le HS6.out k7.size
      clear k7
      clear x0 x1 x2 x3 x4 xl
      have x0 := HL7.out.cell 0 (v := .int .i64 f0) rfl
      have x1 := HL7.out.cell 1 (v := .int .i64 f1) rfl
      have x2 := HL7.out.cell 2 (v := .string f2) rfl
      have x3 := HL7.out.cell 3 (v := .string f3) rfl
      have x4 := HL7.out.cell 4 (v := .int .i64 f4) rfl
      have xl := HL7.out.lt
      dsimp only
      by_cases h5 : f1 = 5
      · subst h5
        rcases at_cases O f2 with ⟨ha, _⟩ | ⟨k0, d, ha, hd, _⟩
        · rw [HK0.out] at ha
          subst ha
          have HAT : Hid (atI O f2 = -1) := HK0.out
          clear HK0
          repeat (first | go_values | go_skip | go_guarded | go_step | go_upon)
          go_at_call 34
          refine (sput O f2 f4 ByteArray.empty _ _ _ w7 HO7.out hO9).mono ?_
          rintro e w1 ⟨v1, rfl, o1, k1⟩
          obtain ⟨a1, p1, hf⟩ := o1.form
          subst hf
          have hpl : (putL O (f2, f4, ByteArray.empty)).length = O.length + 1 := put_len _ _
          have HPL : Hid ((putL O (f2, f4, ByteArray.empty)).length = O.length + 1) := hpl
          obtain ⟨Z, hZ⟩ : ∃ Z, putL O (f2, f4, ByteArray.empty) = Z := ⟨_, rfl⟩
          rw [hZ] at o1 hpl ⊢
          have HZ : Hid (putL O (f2, f4, ByteArray.empty) = Z) := hZ
          have O1 : Hid (ValO w1 w.heap.size w1.heap.size (.slice a1 Z.length p1) Z) := RowO.mono o1 HK7.out.size (Nat.le_refl _)
          have K1 : Hid (Kept w w1) := HK7.out.trans k1
          clear o1 k1 hZ HPL
          by_cases h30 : O.length < 30
          · have dz : decide ((30 : Int) < (Z.length : Int)) = false := decide_eq_false (by omega)
            have hst := step_new_yes (c := (f0, 5, f2, f3, f4)) rfl HAT.out h30
            have HN2 : Hid (migV ver Z (cs.drop (k + 1)) = R) := by have := HST.out; rw [hst] at this; rw [← HZ.out]; exact this
            have HIZ : Hid (InvL Z) := inv_step HIN.out HB.out (by rw [hst, ← HZ.out]; rfl)
            clear hst hpl h30
            clear x0 x1 x2 x3 x4 xl
            dsimp only
            repeat (first | go_values | go_skip | go_guarded | go_step | go_upon)
            exact ⟨⟨k + 1, Z, hlt, by go_num, HN2.out, HIZ.out, O1.out, K1.out⟩, by simp [intOf]; omega⟩
          · have dz : decide ((30 : Int) < (Z.length : Int)) = true := decide_eq_true (by omega)
            have hst := step_new_no (c := (f0, 5, f2, f3, f4)) rfl HAT.out h30
            have HN2 : Hid (none = R) := by have := HST.out; rw [hst] at this; exact this
            clear hst hpl h30
            dsimp only
            repeat (first | go_values | go_skip | go_guarded | go_step | go_upon)
            go_ret2
            exact ⟨_, by rw [← HN2.out]; rfl, by rw [← HN2.out]; exact nil_val _ _ _, K1.out⟩
        · rw [HK0.out] at ha
          subst ha
          have hst := step_new_old (l := O) (c := (f0, 5, f2, f3, f4)) rfl (by show 0 ≤ atI O f2; rw [HK0.out]; omega)
          have HN2 : Hid (migV ver O (cs.drop (k + 1)) = R) := by have := HST.out; rw [hst] at this; exact this
          have dk : decide ((k0 : Int) < 0) = false := decide_eq_false (by omega)
          have dz : decide ((30 : Int) < (O.length : Int)) = false := decide_eq_false (by omega)
          clear hst hd HK0
          repeat (first | go_values | go_skip | go_guarded | go_step | go_upon)
          exact ⟨⟨k + 1, O, hlt, by go_num, HN2.out, HIN.out, RowO.mono HO7.out (Nat.le_refl _) (Nat.le_of_lt HS7.out), HK7.out⟩, by simp [intOf]; omega⟩
      have n5 : (f1 == 5) = false := by simpa using h5
      have H5 : Hid (f1 ≠ 5) := h5
      rcases at_cases O f2 with ⟨ha, _⟩ | ⟨k0, d, ha, hd, _⟩
      · rw [HK0.out] at ha
        subst ha
        have hst := step_none (c := (f0, f1, f2, f3, f4)) h5 HK0.out
        have HN2 : Hid (migV ver O (cs.drop (k + 1)) = R) := by have := HST.out; rw [hst] at this; exact this
        clear hst h5
        repeat (first | go_values | go_skip | go_guarded | go_step | go_upon)
        exact ⟨⟨k + 1, O, hlt, by go_num, HN2.out, HIN.out, RowO.mono HO7.out (Nat.le_refl _) (Nat.le_of_lt HS7.out), HK7.out⟩, by simp [intOf]; omega⟩
      rw [HK0.out] at ha
      subst ha
      have HSA : Hid (stepV O (f0, f1, f2, f3, f4) = (if f1 = 1 then (if 0 ≤ atI O f3 then none else some (putL (dropL O k0) (f3, d.2.1, d.2.2))) else if f1 = 4 then some (dropL O k0) else (turnL f1 f4 d.2.1).map fun m => O.set k0 (d.1, m, d.2.2))) := step_at h5 HK0.out hd
      have hk0 := (List.getElem?_eq_some_iff.1 hd).1
      have HD : Hid (O[k0]? = some d) := hd
      have dk : decide ((k0 : Int) < 0) = false := decide_eq_false (by omega)
      have y0 : (0 : Int) ≤ (k0 : Int) := by omega
      have y1 : (k0 : Int) < (O.length : Int) := by omega
      clear HK0 h5 hd
      by_cases h4 : f1 = 4
      · subst h4
        have hst := HSA.out
        rw [if_neg (by decide), if_pos rfl] at hst
        have HN2 : Hid (migV ver (dropL O k0) (cs.drop (k + 1)) = R) := by have := HST.out; rw [hst] at this; exact this
        have HIZ : Hid (InvL (dropL O k0)) := inv_step HIN.out HB.out hst
        clear hst HSA
        repeat (first | go_values | go_skip | go_guarded | go_step | go_upon)
        go_at_call 35
        refine (sdrop O k0 _ _ _ w7 HO7.out hO9 hk0).mono ?_
        rintro e w1 ⟨v1, rfl, o1, k1⟩
        have O1 : Hid (ValO w1 w.heap.size w1.heap.size v1 (dropL O k0)) := RowO.mono o1 HK7.out.size (Nat.le_refl _)
        have K1 : Hid (Kept w w1) := HK7.out.trans k1
        clear o1 k1
        clear x0 x1 x2 x3 x4 xl
        dsimp only
        repeat (first | go_values | go_skip | go_guarded | go_step | go_upon)
        exact ⟨⟨k + 1, _, hlt, by go_num, HN2.out, HIZ.out, O1.out, K1.out⟩, by simp [intOf]; omega⟩
      have n4 : (f1 == 4) = false := by simpa using h4
      by_cases h1 : f1 = 1
      · subst h1
        have hsa := HSA.out
        rw [if_pos rfl] at hsa
        have HSB : Hid (stepV O (f0, 1, f2, f3, f4) = (if 0 ≤ atI O f3 then none else some (putL (dropL O k0) (f3, d.2.1, d.2.2)))) := hsa
        clear hsa HSA n4
        obtain ⟨K1, hK1⟩ : ∃ K1, atI O f3 = K1 := ⟨_, rfl⟩
        have AT1 : Hid (∀ W, Kept w7 W → Calls Tryd.prog 33 #[.slice ao O.length co, .string f3] W fun e w' => e = .returned (.int .i64 K1) ∧ Kept W w') := fun W k => by rw [← hK1]; exact sat O f3 _ W (HO7.out.at.kept k) (by omega)
        have HK1 : Hid (atI O f3 = K1) := hK1
        clear hK1
        repeat (first | go_values | go_skip | go_guarded | go_step | go_upon)
        go_at_call 33
        with_reducible refine (AT1.out _ (But.refl _ _ _)).mono ?_
        rintro e w8 ⟨rfl, k8⟩
        clear AT1
        have HL8 : Hid (Loc w8 bb [.int .i64 f0, .int .i64 1, .string f2, .string f3, .int .i64 f4]) := HL7.out.kept k8
        have HO8 : Hid (ValO w8 w.heap.size bb (.slice ao O.length co) O) := HO7.out.kept k8
        have HK8 : Hid (Kept w w8) := HK7.out.trans k8
        have HS8 : Hid (bb < w8.heap.size) := Nat.lt_of_lt_of_le HS7.out k8.size
        clear k8
        clear x0 x1 x2 x3 x4 xl
        have x0 := HL8.out.cell 0 (v := .int .i64 f0) rfl
        have x1 := HL8.out.cell 1 (v := .int .i64 1) rfl
        have x2 := HL8.out.cell 2 (v := .string f2) rfl
        have x3 := HL8.out.cell 3 (v := .string f3) rfl
        have x4 := HL8.out.cell 4 (v := .int .i64 f4) rfl
        have xl := HL8.out.lt
        dsimp only
        rcases at_cases O f3 with ⟨ha, _⟩ | ⟨k1, d', ha, _, _⟩
        · rw [HK1.out] at ha
          subst ha
          have hst : stepV O (f0, 1, f2, f3, f4) = some (putL (dropL O k0) (f3, d.2.1, d.2.2)) := by rw [HSB.out, HK1.out]; rfl
          have HN2 : Hid (migV ver (putL (dropL O k0) (f3, d.2.1, d.2.2)) (cs.drop (k + 1)) = R) := by have := HST.out; rw [hst] at this; exact this
          have HIZ : Hid (InvL (putL (dropL O k0) (f3, d.2.1, d.2.2))) := inv_step HIN.out HB.out hst
          obtain ⟨bq, oq, cq, e, q0, q1, q2⟩ := val_get HO8.out.at HD.out
          cases e
          obtain ⟨d0, d1, d2⟩ := d
          dsimp only at q0 q1 q2 HN2 HIZ
          have HDL : Hid ((dropL O k0).length ≤ 1000) := by show (dropL O k0).length ≤ 1000; have := drop_len hk0; omega
          have hqb := World.block_lt_of_cell? _ _ q0
          clear hst HSB HK1
          repeat (go_not_at_region 25; first | go_values | go_skip | go_guarded | go_step | go_upon)
          refine forgetX (fun W => Kept w8 W ∧ Loc W w8.heap.size [.string f3, .int .i64 d1, .string d2]) ⟨(But.refl _ _ _).alloc _, Loc.new w8 [.string f3, .int .i64 d1, .string d2] 53⟩ ?_
          intro w10 hw10
          obtain ⟨k10, LV⟩ := hw10
          obtain ⟨vb, hvb⟩ : ∃ vb, w8.heap.size = vb := ⟨_, rfl⟩
          rw [hvb] at LV ⊢
          have HO10 : Hid (ValO w10 w.heap.size bb (.slice (some ⟨bq, oq, none⟩) O.length co) O) := HO8.out.kept k10
          have HK10 : Hid (Kept w w10) := HK8.out.trans k10
          have u0 := LV.cell 0 (v := .string f3) rfl
          have u1 := LV.cell 1 (v := .int .i64 d1) rfl
          have u2 := LV.cell 2 (v := .string d2) rfl
          have ul := LV.lt
          clear k10 LV hvb q0 q1 q2 hqb x0 x1 x2 x3 x4 xl
          go_region_held3 (fun w' => w'.cell? ⟨vb, 0, none⟩ = some (.string f3) ∧ w'.cell? ⟨vb, 1, none⟩ = some (.int .i64 d1) ∧ w'.cell? ⟨vb, 2, none⟩ = some (.string d2)) (simp [go_sem, *])
            (first | (go_at_call 35; refine (sdrop O k0 _ _ _ _ (HO10.out.kept (by (repeat (first | with_reducible exact But.refl _ _ _ | with_reducible apply But.drewN | with_reducible apply But.drew)))) hO9 hk0).mono ?_; rintro e w11 ⟨v11, rfl, o11, k11⟩; have hc11 := k11.cell_eq; have hz11 := k11.size; (try simp at hz11); have j11 : Kept w10 w11 := (But.trans (by (repeat (first | with_reducible exact But.refl _ _ _ | with_reducible apply But.drewN | with_reducible apply But.drew))) k11); have u07 := Kept.cell j11 u0; have u17 := Kept.cell j11 u1; have u27 := Kept.cell j11 u2)
                   | (go_at_call 34; refine (sput (dropL O k0) f3 d1 d2 v11 _ _ _ (o11.kept (by (repeat (first | with_reducible exact But.refl _ _ _ | with_reducible apply But.drewN | with_reducible apply But.drew)))) HDL.out).mono ?_; rintro e w12 ⟨v12, rfl, o12, k12⟩; have hc12 := k12.cell_eq; have hz12 := k12.size; (try simp at hz12); have j12 : Kept w10 w12 := (But.trans (j11.trans (by (repeat (first | with_reducible exact But.refl _ _ _ | with_reducible apply But.drewN | with_reducible apply But.drew)))) k12); have u08 := Kept.cell j12 u0; have u18 := Kept.cell j12 u1; have u28 := Kept.cell j12 u2))
          have K12 : Hid (Kept w w12) := HK10.out.trans j12
          have O12 : Hid (ValO w12 w.heap.size w12.heap.size v12 (putL (dropL O k0) (f3, d1, d2))) := RowO.mono o12 (by have := HK10.out.size; first | omega | (simp; omega)) (Nat.le_refl _)
          clear o11 o12 j11 j12 k11 k12 hc11 hc12 hz11 hz12 u0 u1 u2 ul u07 u17 u27 u08 u18 u28
          repeat (first | go_values | go_skip | go_guarded | go_step | go_upon)
          exact ⟨⟨k + 1, _, hlt, by go_num, HN2.out, HIZ.out, O12.out, K12.out⟩, by simp [intOf]; omega⟩
        · rw [HK1.out] at ha
          subst ha
          have hst : stepV O (f0, 1, f2, f3, f4) = none := by rw [HSB.out, HK1.out, if_pos (by omega)]
          have HN2 : Hid (none = R) := by have := HST.out; rw [hst] at this; exact this
          have dk1 : decide ((0 : Int) ≤ (k1 : Int)) = true := decide_eq_true (by omega)
          clear hst HSB HK1
          repeat (first | go_values | go_skip | go_guarded | go_step | go_upon)
          go_ret2
          exact ⟨_, by rw [← HN2.out]; rfl, by rw [← HN2.out]; exact nil_val _ _ _, HK8.out⟩
      have n1 : (f1 == 1) = false := by simpa using h1
      have HSB : Hid (stepV O (f0, f1, f2, f3, f4) = (turnL f1 f4 d.2.1).map fun m => O.set k0 (d.1, m, d.2.2)) := by
        show _ = _
        rw [HSA.out, if_neg h1, if_neg h4]
      have hinr := HIN.out.2.2 d (List.mem_of_getElem? HD.out)
      obtain ⟨bq, oq, cq, e, q0, q1, q2⟩ := val_get HO7.out.at HD.out
      cases e
      obtain ⟨g', cap', hfm, _⟩ : ∃ g cap', Value.slice (some ⟨bq, oq, none⟩) O.length co = .slice (some ⟨g, 0, none⟩) O.length cap' ∧ True := by
        rcases HO7.out.1.2 with ⟨hf, _⟩ | ⟨g, c2, cur, hf, _⟩
        · cases hf
        · exact ⟨g, c2, hf, trivial⟩
      cases hfm
      obtain ⟨d0, d1, d2⟩ := d
      dsimp only at q0 q1 q2 HSB hinr
      rw [Nat.zero_add] at q0 q1 q2
      have hqb := World.block_lt_of_cell? _ _ q0
      have AT1 : Hid (∀ W, Calls Tryd.prog 36 #[.agg #[.int .i64 f0, .int .i64 f1, .string f2, .string f3, .int .i64 f4], .int .i64 d1] W fun e w' => e = .returned (.tuple #[.int .i64 (numR f1 f4 d1), .bool (turnL f1 f4 d1).isSome]) ∧ Kept W w') := fun W => sturn f0 f1 f2 f3 f4 d1 W HB.out hinr
      obtain ⟨NR, hNR⟩ : ∃ NR, numR f1 f4 d1 = NR := ⟨_, rfl⟩
      rw [hNR] at AT1
      have HNR : Hid (∀ m, turnL f1 f4 d1 = some m → NR = m) := fun m h => by rw [← hNR]; exact num_turn HB.out h
      clear HSA h1 h4 hNR hinr
      cases ht : turnL f1 f4 d1 with
      | none =>
        rw [ht] at AT1
        have hst : stepV O (f0, f1, f2, f3, f4) = none := by rw [HSB.out, ht]; rfl
        have HN2 : Hid (none = R) := by have := HST.out; rw [hst] at this; exact this
        have AT2 : Hid (∀ W, Calls Tryd.prog 36 #[.agg #[.int .i64 f0, .int .i64 f1, .string f2, .string f3, .int .i64 f4], .int .i64 d1] W fun e w' => e = .returned (.tuple #[.int .i64 NR, .bool false]) ∧ Kept W w') := AT1.out
        clear hst ht HNR HSB AT1
        repeat (first | go_values | go_skip | go_guarded | go_step | go_upon)
        refine wp_region_kept (by kernel_rfl) (by kernel_rfl) ?_
        have hne := kw_some w7
        have hcc := KW.cell_eq w7
        have hcf := fun (x : KW w7) (b o : Nat) (hb : b < w7.heap.size) => x.k.frozen_eq b o hb
        repeat (first | (go_big_quiet_step (first | (go_at_call 36; with_reducible exact kw_call (AT2.out _)))) | (go_big_quiet_want; go_big_quiet_op; refine ⟨_, fun _ => (by with_reducible rfl), ?_⟩; go_big_quiet_on))
        refine wpQuiet_nil ?_
        rintro w5 ⟨⟨w8, k5⟩, h9⟩
        change w5 = w8 at h9
        subst h9
        clear hcc hne hcf
        repeat (first | go_values | go_skip | go_guarded | go_step | go_upon)
        go_ret2
        exact ⟨_, by rw [← HN2.out]; rfl, by rw [← HN2.out]; exact nil_val _ _ _, HK7.out.trans k5⟩
      | some m =>
        rw [ht] at AT1
        have hm := HNR.out m ht
        subst hm
        have hst : stepV O (f0, f1, f2, f3, f4) = some (O.set k0 (d0, NR, d2)) := by rw [HSB.out, ht]; rfl
        have HN2 : Hid (migV ver (O.set k0 (d0, NR, d2)) (cs.drop (k + 1)) = R) := by have := HST.out; rw [hst] at this; exact this
        have HIZ : Hid (InvL (O.set k0 (d0, NR, d2))) := inv_step HIN.out HB.out hst
        have AT2 : Hid (∀ W, Calls Tryd.prog 36 #[.agg #[.int .i64 f0, .int .i64 f1, .string f2, .string f3, .int .i64 f4], .int .i64 d1] W fun e w' => e = .returned (.tuple #[.int .i64 NR, .bool true]) ∧ Kept W w') := AT1.out
        clear hst ht HNR HSB AT1
        repeat (first | go_values | go_skip | go_guarded | go_step | go_upon)
        refine wp_region_kept (by kernel_rfl) (by kernel_rfl) ?_
        have hne := kw_some w7
        have hcc := KW.cell_eq w7
        have hcf := fun (x : KW w7) (b o : Nat) (hb : b < w7.heap.size) => x.k.frozen_eq b o hb
        repeat (first | (go_big_quiet_step (first | (go_at_call 36; with_reducible exact kw_call (AT2.out _)))) | (go_big_quiet_want; go_big_quiet_op; refine ⟨_, fun _ => (by with_reducible rfl), ?_⟩; go_big_quiet_on))
        refine wpQuiet_nil ?_
        rintro w5 ⟨⟨w8, k5⟩, h9⟩
        change w5 = w8 at h9
        subst h9
        clear hcc hne hcf
        have HO5 : Hid (ValO w5 w.heap.size bb (.slice (some ⟨bq, 0, none⟩) O.length co) O) := HO7.out.kept k5
        have HK5 : Hid (Kept w w5) := HK7.out.trans k5
        have HS5 : Hid (bb < w5.heap.size) := Nat.lt_of_lt_of_le HS7.out k5.size
        obtain ⟨e0, e1, e2, ez⟩ := HO5.out.cells HD.out
        dsimp only at e0 e1 e2
        have ey := ez (k0 * 3 + 1)
        have X1 := HO5.out.set rfl HD.out 1 (by omega) (.int .i64 NR) (q := (d0, NR, d2)) rfl
        have HX1 : Hid (ValO (w5.setCell ⟨bq, k0 * 3 + 1, none⟩ (.int .i64 NR)) w.heap.size bb (.slice (some ⟨bq, 0, none⟩) O.length co) (O.set k0 (d0, NR, d2))) := X1
        have HKX : Hid (Kept w (w5.setCell ⟨bq, k0 * 3 + 1, none⟩ (.int .i64 NR))) := HK5.out.setNew (own_lt HO5.out.1 (g := bq) rfl).1 _
        clear X1 ez q0 q1 q2 hqb x0 x1 x2 x3 x4 xl e0 e2 k5
        repeat (first | go_values | go_skip | go_guarded | go_step | go_upon)
        have HLN : Hid ((O.set k0 (d0, NR, d2)).length = O.length) := List.length_set
        refine ⟨⟨k + 1, O.set k0 (d0, NR, d2), hlt, by go_num, HN2.out, HIZ.out, ?_, HKX.out⟩, by simp [intOf]; omega⟩
        refine RowO.mono HX1.out (Nat.le_refl _) ?_
        have := HS5.out
        simp [World.setCell]
        omega
    · have hke : k = cs.length := by omega
      subst hke
      have hM := HM.out
      rw [List.drop_length] at hM
      have HRO : Hid (some O = R) := hM
      have K1 : Hid (Kept w wr) := hkp
      clear hM hkp hO hinv HM
      repeat (first | go_values | go_skip | go_guarded | go_step | go_upon)
      go_ret2
      exact ⟨_, by rw [← HRO.out]; rfl, by rw [← HRO.out]; exact HO.out, K1.out⟩

end Go.Proofs.YtklgjhemcofhhaaDoor
