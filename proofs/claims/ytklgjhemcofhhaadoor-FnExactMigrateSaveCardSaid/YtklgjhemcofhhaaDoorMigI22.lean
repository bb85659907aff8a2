/-
  What MigrateSave of the program answers.
-/
import Derived.Test.YtklgjhemcofhhaaDoorChv22
import Derived.Test.YtklgjhemcofhhaaDoorTn22
import Derived.Test.YtklgjhemcofhhaaDoorTn22b
import Derived.Test.YtklgjhemcofhhaaDoorTn22c
import Derived.Test.YtklgjhemcofhhaaDoorTn22d
import Derived.Test.YtklgjhemcofhhaaDoorIGood22
import Derived.Test.YtklgjhemcofhhaaDoorIGoodC22
import Derived.Test.YtklgjhemcofhhaaDoorLists22
import Derived.Deep.Cut
import Derived.Deep.RegionHeld3
namespace Go.Proofs.YtklgjhemcofhhaaDoor
open Go.ChangeShapes Go.WideShapes Go.ChangeAt Go.RowKit

set_option maxRecDepth 100000
set_option linter.unusedVariables false
set_option linter.unusedSimpArgs false

/-- What a change of values answers. -/
def CP (lo : Nat) (w : World) (R : Option (List ValD)) (e : Ending) (w' : World) : Prop := (∃ v' er, e = .returned (.tuple #[v', er]) ∧ ((∃ m, R = some m ∧ er = .nilIface ∧ ValO w' lo w'.heap.size v' m) ∨ (R = none ∧ EIs er))) ∧ But lo w.heap.size w w'
/-- changeValues. -/
theorem ichv (l : List ValD) (f0 f1 : Int) (f2 f3 : ByteArray) (f4 : Int) (lo : Nat) (v : Value) (w : World) (hO : ValO w lo w.heap.size v l) (hlo : 10 < lo) (hlh : lo ≤ w.heap.size) (hE : ErrG w) (hinv : InvL l) (hby : -1000000 ≤ f4 ∧ f4 ≤ 1000000) (hkd : f1 = 1 ∨ f1 = 2 ∨ f1 = 3 ∨ f1 = 4 ∨ f1 = 5) :
    Calls Tryd.prog 51 #[v, .agg #[.int .i64 f0, .int .i64 f1, .string f2, .string f3, .int .i64 f4]] w (CP lo w (stepV l (f0, f1, f2, f3, f4))) := by
  have YES : ∀ m, stepV l (f0, f1, f2, f3, f4) = some m → (Calls Tryd.prog 51 #[v, .agg #[.int .i64 f0, .int .i64 f1, .string f2, .string f3, .int .i64 f4]] w fun e w' => ∃ v', e = .returned (.tuple #[v', .nilIface]) ∧ ValO w' lo w'.heap.size v' m ∧ But lo w.heap.size w w') → Calls Tryd.prog 51 #[v, .agg #[.int .i64 f0, .int .i64 f1, .string f2, .string f3, .int .i64 f4]] w (CP lo w (stepV l (f0, f1, f2, f3, f4))) := fun m hm h => h.mono fun e w' ⟨v', he, h1, h2⟩ => ⟨⟨v', _, he, .inl ⟨m, hm, rfl, h1⟩⟩, h2⟩
  have NON : stepV l (f0, f1, f2, f3, f4) = none → (Calls Tryd.prog 51 #[v, .agg #[.int .i64 f0, .int .i64 f1, .string f2, .string f3, .int .i64 f4]] w fun e w' => (∃ v' er, EIs er ∧ e = .returned (.tuple #[v', er])) ∧ But lo w.heap.size w w') → Calls Tryd.prog 51 #[v, .agg #[.int .i64 f0, .int .i64 f1, .string f2, .string f3, .int .i64 f4]] w (CP lo w (stepV l (f0, f1, f2, f3, f4))) := fun hm h => h.mono fun e w' ⟨⟨v', er, h1, he⟩, h2⟩ => ⟨⟨v', er, he, .inr ⟨hm, h1⟩⟩, h2⟩
  have hfa := found_at hinv.1 f2
  cases hfo : foundB f2 l with
  | true =>
    by_cases h5 : f1 = 5
    · subst h5
      have ha : 0 ≤ atI l f2 := by
        rcases hfa with ⟨_, h, _⟩ | ⟨h, _⟩
        · omega
        · rw [hfo] at h; cases h
      exact YES l (step_new_old rfl ha) (ichv_same l f0 5 f2 f3 f4 lo v w hO hlo hlh hE hinv (by rw [hfo]; rfl))
    · rcases hkd with rfl | rfl | rfl | rfl | rfl
      · cases hm : stepV l (f0, 1, f2, f3, f4) with
        | none => rw [hm] at NON; exact NON rfl (ichv_name_no l f0 f2 f3 f4 lo v w hO hlo hlh hE hinv hfo hm)
        | some m => rw [hm] at YES; exact YES m rfl (ichv_name l m f0 f2 f3 f4 lo v w hO hlo hlh hE hinv hfo hm)
      · cases hm : stepV l (f0, 2, f2, f3, f4) with
        | none => rw [hm] at NON; exact NON rfl (ichv_turn2_no l f0 f2 f3 f4 lo v w hO hlo hlh hE hinv hfo hby hm)
        | some m => rw [hm] at YES; exact YES m rfl (ichv_turn2 l m f0 f2 f3 f4 lo v w hO hlo hlh hE hinv hfo hby hm)
      · cases hm : stepV l (f0, 3, f2, f3, f4) with
        | none => rw [hm] at NON; exact NON rfl (ichv_turn3_no l f0 f2 f3 f4 lo v w hO hlo hlh hE hinv hfo hby hm)
        | some m => rw [hm] at YES; exact YES m rfl (ichv_turn3 l m f0 f2 f3 f4 lo v w hO hlo hlh hE hinv hfo hby hm)
      · cases hm : stepV l (f0, 4, f2, f3, f4) with
        | none =>
          exfalso
          rcases hfa with ⟨_, h1, h2⟩ | ⟨h, _⟩
          · obtain ⟨d, hd⟩ : ∃ d, l[posL f2 l]? = some d := ⟨_, List.getElem?_eq_getElem h2⟩
            have hst := step_at (c := (f0, 4, f2, f3, f4)) (by show (4 : Int) ≠ 5; decide) h1 hd
            dsimp only at hst
            rw [if_neg (by decide), if_pos rfl, hm] at hst
            cases hst
          · rw [hfo] at h; cases h
        | some m => rw [hm] at YES; exact YES m rfl (ichv_drop l m f0 f2 f3 f4 lo v w hO hlo hlh hE hinv hfo hm)
      · exact absurd rfl h5
  | false =>
    have ha : atI l f2 = -1 := by
      rcases hfa with ⟨h, _⟩ | ⟨_, h⟩
      · rw [hfo] at h; cases h
      · exact h
    by_cases h5 : f1 = 5
    · subst h5
      cases hm : stepV l (f0, 5, f2, f3, f4) with
      | none => rw [hm] at NON; exact NON rfl (ichv_new_no l f0 f2 f3 f4 lo v w hO hlo hlh hE hinv hfo hm)
      | some m => rw [hm] at YES; exact YES m rfl (ichv_new l m f0 f2 f3 f4 lo v w hO hlo hlh hE hinv hfo hm)
    · exact YES l (step_none (c := (f0, f1, f2, f3, f4)) h5 ha) (ichv_same l f0 f1 f2 f3 f4 lo v w hO hlo hlh hE hinv (by rw [hfo]; simp [h5]))

set_option maxHeartbeats 16000000 in
theorem imig (ver : Int) (l : List ValD) (cs : List ChgD) (v v2 : Value) (w : World) (hE : ErrG w) (hv : ValAt w v l) (hc : ChgAt w v2 cs) (hn : l.length ≤ 1048576) (hs0 : ∀ d ∈ l, d.1.size ≤ 1048576 ∧ d.2.2.size ≤ 1048576) (hr : ∀ d ∈ l, InR d.2.1) (hcn : cs.length ≤ 1048576) (hcs : ∀ d ∈ cs, d.2.2.1.size ≤ 1048576 ∧ d.2.2.2.1.size ≤ 1048576) :
    Calls Tryd.prog 39 #[.int .i64 ver, v, v2] w fun e w' => (∃ v' er, e = .returned (.tuple #[v', er]) ∧ ((∃ m, migR ver l cs = some m ∧ er = .nilIface ∧ ValO w' w.heap.size w'.heap.size v' m) ∨ (migR ver l cs = none ∧ EIs er ∧ v' = .slice none 0 0))) ∧ Kept w w' := by
  obtain ⟨av, cv, hsl⟩ := row_nil hv
  subst hsl
  obtain ⟨ac, cc, hsl⟩ := row_nil hc
  subst hsl
  have AG : Hid (∀ W, Kept w W → Calls Tryd.prog 45 #[.slice av l.length cv] W fun e w' => e = .returned (.bool (decide (ValsP l))) ∧ Kept W w') := fun W k => igoodv l _ W (hv.kept k) hn hs0
  have AC : Hid (∀ W, Kept w W → Calls Tryd.prog 50 #[.slice ac cs.length cc] W fun e w' => e = .returned (.bool (decide (ChgsP cs))) ∧ Kept W w') := fun W k => igoodc cs _ W (hc.kept k) hcn hcs
  by_cases h1 : 1 ≤ ver ∧ ver ≤ 3
  case neg =>
    rw [show migR ver l cs = none from if_neg (fun h => h1 h.1)]
    obtain ⟨ug, ag, hcg⟩ := hE.1
    by_cases h2 : ver < 1
    · have d1 : decide (ver < 1) = true := decide_eq_true h2
      clear h1 h2 AG AC hE hv hc hn hs0 hr hcn hcs
      go_enter Tryd.func39, Tryd.ntmps39
      repeat (first | go_values | go_skip | go_guarded | go_step | go_upon | go_region)
      go_ret2
      exact ⟨⟨_, _, rfl, .inr ⟨by trivial, ⟨_, _, rfl⟩, rfl⟩⟩, (But.refl _ _ _).drew⟩
    · have d1 : decide (ver < 1) = false := decide_eq_false h2
      have d2 : decide (3 < ver) = true := decide_eq_true (by omega)
      clear h1 h2 AG AC hE hv hc hn hs0 hr hcn hcs
      go_enter Tryd.func39, Tryd.ntmps39
      repeat (first | go_values | go_skip | go_guarded | go_step | go_upon | go_region)
      go_ret2
      exact ⟨⟨_, _, rfl, .inr ⟨by trivial, ⟨_, _, rfl⟩, rfl⟩⟩, (But.refl _ _ _).drew⟩
  have d1 : decide (ver < 1) = false := decide_eq_false (by omega)
  have d2 : decide (3 < ver) = false := decide_eq_false (by omega)
  by_cases h2 : ValsP l
  case neg =>
    rw [show migR ver l cs = none from if_neg (fun h => h2 h.2.1)]
    rw [decide_eq_false h2] at AG
    have HE : Hid (ErrG w) := hE
    clear h1 h2 AC hE hv hc hn hs0 hr hcn hcs
    go_enter Tryd.func39, Tryd.ntmps39
    repeat (first | go_values | go_skip | go_guarded | go_step | go_upon)
    go_at_call 45
    with_reducible refine (AG.out _ (But.refl _ _ _)).mono ?_
    rintro e w9 ⟨rfl, k9⟩
    have HK9 : Hid (Kept w w9) := k9
    obtain ⟨ug, ag, hcg⟩ := (HE.out.kept k9).1
    clear k9
    dsimp only
    repeat (first | go_values | go_skip | go_guarded | go_step | go_upon | go_region)
    go_ret2
    exact ⟨⟨_, _, rfl, .inr ⟨by trivial, ⟨_, _, rfl⟩, rfl⟩⟩, But.drew HK9.out⟩
  by_cases h3 : ChgsP cs
  case neg =>
    rw [show migR ver l cs = none from if_neg (fun h => h3 h.2.2)]
    rw [decide_eq_true h2] at AG
    rw [decide_eq_false h3] at AC
    have HE : Hid (ErrG w) := hE
    clear h1 h2 h3 hE hv hc hn hs0 hr hcn hcs
    go_enter Tryd.func39, Tryd.ntmps39
    repeat (first | go_values | go_skip | go_guarded | go_step | go_upon)
    go_at_call 45
    with_reducible refine (AG.out _ (But.refl _ _ _)).mono ?_
    rintro e w9 ⟨rfl, k9⟩
    have HK9 : Hid (Kept w w9) := k9
    clear k9
    dsimp only
    repeat (first | go_values | go_skip | go_guarded | go_step | go_upon)
    go_at_call 50
    with_reducible refine (AC.out _ HK9.out).mono ?_
    rintro e w8 ⟨rfl, k8⟩
    have HK8 : Hid (Kept w w8) := HK9.out.trans k8
    obtain ⟨ug, ag, hcg⟩ := (HE.out.kept HK8.out).1
    clear k8
    dsimp only
    repeat (first | go_values | go_skip | go_guarded | go_step | go_upon | go_region)
    go_ret2
    exact ⟨⟨_, _, rfl, .inr ⟨by trivial, ⟨_, _, rfl⟩, rfl⟩⟩, But.drew HK8.out⟩
  rw [show migR ver l cs = migV ver l cs from if_pos ⟨h1, h2, h3⟩]
  rw [decide_eq_true h2] at AG
  rw [decide_eq_true h3] at AC
  have HCP : Hid (ChgsP cs) := h3
  have hl30 : l.length ≤ 30 := by have := h2.2.1; rwa [namesOf_len] at this
  have HI0 : Hid (InvL l) := ⟨up_of_keys h2.2, hl30, hr⟩
  have HV : Hid (ValAt w (.slice av l.length cv) l) := hv
  have HC : Hid (ChgAt w (.slice ac cs.length cc) cs) := hc
  have hc30 : cs.length ≤ 30 := h3.1
  have HE : Hid (ErrG w) := hE
  have HLO : Hid (10 < w.heap.size) := by
    have h1 := hE.1.lt
    have h2 := hE.2.1.lt
    have h3 := hE.2.2.1.lt
    have h4 := hE.2.2.2.lt
    show 10 < w.heap.size
    omega
  obtain ⟨R, hR⟩ : ∃ R, migV ver l cs = R := ⟨_, rfl⟩
  rw [hR]
  have HR : Hid (migV ver l cs = R) := hR
  clear hR h1 h2 h3 hv hc hn hs0 hr hcn hcs hE
  go_enter Tryd.func39, Tryd.ntmps39
  repeat (first | go_values | go_skip | go_guarded | go_step | go_upon)
  go_at_call 45
  with_reducible refine (AG.out _ (But.refl _ _ _)).mono ?_
  rintro e w9 ⟨rfl, k9⟩
  have HK9 : Hid (Kept w w9) := k9
  clear k9
  dsimp only
  repeat (first | go_values | go_skip | go_guarded | go_step | go_upon)
  go_at_call 50
  with_reducible refine (AC.out _ HK9.out).mono ?_
  rintro e w8 ⟨rfl, k8⟩
  have HK8 : Hid (Kept w w8) := HK9.out.trans k8
  have s8 : w.heap.size ≤ w8.heap.size := HK8.out.size
  clear k8 AG AC
  dsimp only
  repeat (first | (at_builtin; refine forgetL (fun w' => w' = _) rfl ?_) | go_values | go_skip | go_guarded | go_step | go_upon)
  intro W7 hW7
  rw [hW7]
  clear hW7 W7
  refine app_val rfl _ _ rfl (lo := w8.heap.size) (hi := w8.heap.size + 1) rfl (nil_val _ _ _) (qs := l) rfl (HV.out.kept HK8.out) rfl (by simp; omega) (by omega) ?_
  intro v5 w5 o5 b5
  have k5 : Kept w w5 := ⟨b5.os.trans HK8.out.os, b5.out.trans HK8.out.out, Nat.le_trans HK8.out.size b5.size, fun i hi2 _ => (b5.block i (by omega) (by omega)).trans (HK8.out.block i hi2 (by omega))⟩
  rw [List.nil_append] at o5
  have o5 : ValO w5 w.heap.size w5.heap.size v5 l := RowO.mono o5 s8 (Nat.le_refl _)
  obtain ⟨a5, p5, hf⟩ := o5.form
  subst hf
  have O5 : Hid (ValO w5 w.heap.size w5.heap.size (.slice a5 l.length p5) l) := o5
  clear b5 s8
  repeat (first | go_values | go_skip | go_guarded | go_step | go_upon)
  go_loopw [8, 33] (fun s i wr => ∃ (k : Nat) (O : List ValD), k ≤ cs.length ∧ i = .int .i64 k ∧ Hid (migV ver O (cs.drop k) = R) ∧ InvL O ∧ ValO wr w.heap.size wr.heap.size s O ∧ Kept w wr) (fun s i _ => cs.length - (intOf i).toNat)
  case atStart => exact ⟨0, l, by omega, rfl, by show _ = _; rw [List.drop_zero]; exact HR.out, HI0.out, O5.out, k5⟩
  case round =>
    clear k5 o5 O5
    obtain ⟨k, O, hk, rfl, HM, hinv, hO, hkp⟩ := hrel
    obtain ⟨ao, co, hf⟩ := hO.form
    subst hf
    have HK : Hid (Kept w wr) := hkp
    have HO : Hid (ValO wr w.heap.size wr.heap.size (.slice ao O.length co) O) := hO
    have HIN : Hid (InvL O) := hinv
    by_cases hlt : k < cs.length
    · obtain ⟨c, hcc⟩ : ∃ c, cs[k]? = some c := ⟨_, List.getElem?_eq_getElem hlt⟩
      obtain ⟨b, o, cap', e, c0, c1, c2, c3, c4⟩ := chg_get (HC.out.kept hkp) hcc
      cases e
      have HDR : Hid (cs.drop k = c :: cs.drop (k + 1)) := by
        obtain ⟨h1, h2⟩ := List.getElem?_eq_some_iff.1 hcc
        show _ = _
        rw [List.drop_eq_getElem_cons h1, h2]
      have hM := HM.out
      rw [HDR.out, mig_cons] at hM
      have HBY := by_range HCP.out hcc
      have HKI := kind_range HCP.out hcc
      obtain ⟨f0, f1, f2, f3, f4⟩ := c
      dsimp only at c0 c1 c2 c3 c4 hM HBY HKI
      have HMC : Hid ((if f0 < ver then migV ver O (cs.drop (k + 1)) else (stepV O (f0, f1, f2, f3, f4)).bind fun m => migV ver m (cs.drop (k + 1))) = R) := hM
      have HB : Hid (-1000000 ≤ f4 ∧ f4 ≤ 1000000) := HBY
      have HKD : Hid (f1 = 1 ∨ f1 = 2 ∨ f1 = 3 ∨ f1 = 4 ∨ f1 = 5) := HKI
      have hgw : b < wr.heap.size := World.block_lt_of_cell? _ _ c0
      clear hcc hkp hO hM HBY HKI hinv HDR HM
      by_cases hv0 : f0 < ver
      · have dv : decide (f0 < ver) = true := decide_eq_true hv0
        have HN2 : Hid (migV ver O (cs.drop (k + 1)) = R) := by have := HMC.out; rw [if_pos hv0] at this; exact this
        clear hv0
        repeat (first | go_values | go_skip | go_guarded | go_step | go_upon)
        exact ⟨⟨k + 1, O, hlt, by go_num, HN2.out, HIN.out, RowO.mono (HO.out.kept ((But.refl _ _ _).alloc _)) (Nat.le_refl _) (by simp), HK.out.alloc _⟩, by simp [intOf]; omega⟩
      have dv : decide (f0 < ver) = false := decide_eq_false hv0
      have HST : Hid (((stepV O (f0, f1, f2, f3, f4)).bind fun m => migV ver m (cs.drop (k + 1))) = R) := by have := HMC.out; rw [if_neg hv0] at this; exact this
      clear hv0 HMC
      repeat (first | go_values | go_skip | go_guarded | go_step | go_upon)
      go_at_call 51
      have k6 : Kept w (wr.alloc (.cells #[.int .i64 f0, .int .i64 f1, .string f2, .string f3, .int .i64 f4] 70)) := HK.out.alloc _
      refine (ichv O f0 f1 f2 f3 f4 w.heap.size _ _ (RowO.mono (HO.out.kept ((But.refl _ _ _).alloc _)) (Nat.le_refl _) (by simp)) HLO.out k6.size (HE.out.kept k6) HIN.out HB.out HKD.out).mono ?_
      rintro e w1 ⟨⟨v1, er, rfl, hor⟩, b1⟩
      have HK1 : Hid (Kept w w1) := But.onto k6 b1 (Nat.le_refl _)
      clear b1 k6 c0 c1 c2 c3 c4 hgw HO HK
      rcases hor with ⟨m, hst, rfl, o1⟩ | ⟨hst, u, a, rfl⟩
      · have HN2 : Hid (migV ver m (cs.drop (k + 1)) = R) := by have := HST.out; rw [hst] at this; exact this
        have HIZ : Hid (InvL m) := inv_step HIN.out HB.out hst
        have HO1 : Hid (ValO w1 w.heap.size w1.heap.size v1 m) := o1
        clear hst o1 HST
        dsimp only
        repeat (first | go_values | go_skip | go_guarded | go_step | go_upon)
        exact ⟨⟨k + 1, m, hlt, by go_num, HN2.out, HIZ.out, HO1.out, HK1.out⟩, by simp [intOf]; omega⟩
      · have HN2 : Hid (none = R) := by have := HST.out; rw [hst] at this; exact this
        clear hst HST
        dsimp only
        repeat (first | go_values | go_skip | go_guarded | go_step | go_upon)
        go_ret2
        exact ⟨⟨_, _, rfl, .inr ⟨HN2.out.symm, ⟨_, _, rfl⟩, rfl⟩⟩, HK1.out⟩
    · have hke : k = cs.length := by omega
      subst hke
      have hM := HM.out
      rw [List.drop_length] at hM
      have HRO : Hid (some O = R) := hM
      clear hM hkp hO hinv HM
      repeat (first | go_values | go_skip | go_guarded | go_step | go_upon)
      go_ret2
      exact ⟨⟨_, _, rfl, .inl ⟨O, HRO.out.symm, rfl, HO.out⟩⟩, HK.out⟩

theorem imigrate (ver : Int) (l : List ValD) (cs : List ChgD) (v v2 : Value) (w : World) (hE : ErrG w) (hv : ValAt w v l) (hc : ChgAt w v2 cs) (hn : l.length ≤ 1048576) (hs0 : ∀ d ∈ l, d.1.size ≤ 1048576 ∧ d.2.2.size ≤ 1048576) (hr : ∀ d ∈ l, InR d.2.1) (hcn : cs.length ≤ 1048576) (hcs : ∀ d ∈ cs, d.2.2.1.size ≤ 1048576 ∧ d.2.2.2.1.size ≤ 1048576) :
    Calls Tryd.prog 18 #[.int .i64 ver, v, v2] w fun e w' => ∃ v', e = .returned (.tuple #[v', .bool (migR ver l cs).isSome]) ∧ ValO w' w.heap.size w'.heap.size v' ((migR ver l cs).getD []) ∧ Kept w w' := by
  have HM : Hid (Calls Tryd.prog 39 #[.int .i64 ver, v, v2] w fun e w' => (∃ v' er, e = .returned (.tuple #[v', er]) ∧ ((∃ m, migR ver l cs = some m ∧ er = .nilIface ∧ ValO w' w.heap.size w'.heap.size v' m) ∨ (migR ver l cs = none ∧ EIs er ∧ v' = .slice none 0 0))) ∧ Kept w w') := imig ver l cs v v2 w hE hv hc hn hs0 hr hcn hcs
  obtain ⟨av, cv, hsl⟩ := row_nil hv
  subst hsl
  obtain ⟨ac, cc, hsl⟩ := row_nil hc
  subst hsl
  generalize migR ver l cs = R at *
  clear hE hv hc hn hs0 hr hcn hcs
  go_enter Tryd.func18, Tryd.ntmps18
  repeat (first | go_values | go_skip | go_guarded | go_step | go_upon)
  go_at_call 39
  with_reducible refine HM.out.mono ?_
  rintro e w1 ⟨⟨v1, er, rfl, hor⟩, k1⟩
  rcases hor with ⟨m, rfl, rfl, o1⟩ | ⟨rfl, ⟨u, a, rfl⟩, rfl⟩
  · dsimp only
    repeat (first | go_values | go_skip | go_guarded | go_step | go_upon | go_region)
    go_ret2
    exact ⟨_, rfl, RowO.kept o1 ((But.refl _ _ _).drew), k1.drew⟩
  · dsimp only
    repeat (first | go_values | go_skip | go_guarded | go_step | go_upon | go_region)
    go_ret2
    exact ⟨_, rfl, nil_val _ _ _, k1.drew⟩

end Go.Proofs.YtklgjhemcofhhaaDoor
