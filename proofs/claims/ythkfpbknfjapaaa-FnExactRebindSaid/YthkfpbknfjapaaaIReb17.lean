/-
  Rebind in the program.
-/
import Derived.Test.YthkfpbknfjapaaaRebP17
import Derived.Test.YthkfpbknfjapaaaBApp17
import Derived.Test.YthkfpbknfjapaaaGBI17
import Derived.Test.YthkfpbknfjapaaaZed17
import Derived.Test.YthkfpbknfjapaaaSort17
import Derived.Deep.DeepCutAuto
namespace Go.Proofs.Ythkfpbknfjapaaa
open Go.ChangeShapes Go.WideShapes Go.ChangeAt Go.RowKit

set_option maxRecDepth 100000
set_option linter.unusedVariables false

theorem one_binds {w : World} (a : ByteArray) (x : Option Addr) (p lo : Nat) (c : List Int) (h : NumO w lo w.heap.size (.slice x c.length p) c) (hlo : lo ≤ w.heap.size) : BindsO (w.alloc (.cells #[.string a, .slice x c.length p] 85)) lo (w.alloc (.cells #[.string a, .slice x c.length p] 85)).heap.size (.slice (some ⟨w.heap.size, 0, none⟩) 1 1) [(a, c)] := by
  refine ⟨[(a, (.slice x c.length p, c))], ⟨RowO.top ⟨rfl, Or.inr ⟨w.heap.size, 1, #[.string a, .slice x c.length p], rfl, hlo, heap_alloc_new w _, Nat.le_refl _, by unfold maxLen; omega, rfl, rfl⟩⟩, fun i q hq => ?_, fun i j q q' hij hq hq' => ?_⟩, rfl⟩
  · cases i with
    | zero =>
      simp at hq
      subst hq
      exact (h.kept ((But.refl _ _ w).alloc _)).low
    | succ i => simp at hq
  · cases i with
    | zero => cases j with
      | zero => exact absurd rfl hij
      | succ j => simp at hq'
    | succ i => simp at hq
set_option maxHeartbeats 16000000 in
theorem irebind (l : List BindD) (a : ByteArray) (c : List Int) (ao : Option Addr) (cap : Nat) (ac : Option Addr) (pc : Nat) (w : World) (hv : BindsAt w (.slice ao l.length cap) l) (hcap : l.length ≤ cap ∧ cap ≤ 9223372036854775807) (hc : NumAt w (.slice ac c.length pc) c) (hn : bindsCost l ≤ 1048576) (ha : a.size ≤ 1048576) (hm : c.length ≤ 1048576) :
    Calls Try.prog 20 #[.slice ao l.length cap, .string a, .slice ac c.length pc] w fun e w' => ∃ v', e = .returned (.tuple #[v', .string (rebA l a c).2.1, .bool (rebA l a c).2.2]) ∧ BindsO w' w.heap.size w'.heap.size v' (rebA l a c).1 ∧ Kept w w' := by
  rcases (Classical.em (BindsP l)).symm with h1 | h1
  · have dm : dec (BindsP l) = false := dec_no h1
    rw [rebA_no (fun h => h1 h.1)]
    go_enter Try.func20, Try.ntmps20
    repeat (first | (go_at_call 16; refine (igbinds l ao cap _ hv hcap hn).mono ?_; rintro e w1 ⟨rfl, k1⟩; rw [dm]; dsimp only) | go_values | go_skip | go_guarded | go_step | go_upon)
    go_returns
    exact ⟨_, rfl, nil_binds _ _ _, k1⟩
  have dm : dec (BindsP l) = true := dec_yes h1
  obtain ⟨hln, hcs0⟩ := binds_each hn
  have hcs : Hid (∀ d ∈ l, d.1.size ≤ 1048576 ∧ d.2.length ≤ 1048576) := hcs0
  have h20 := h1.1
  have HRis : Hid (Ris l) := binds_ris h1
  have NO : Hid (¬ BindsP (rebR l a c) → rebA l a c = ([], ⟨#[]⟩, false)) := fun h => rebA_no (fun h' => h h'.2)
  have YES : Hid (BindsP (rebR l a c) → rebA l a c = (rebR l a c, (rebI l a c l.length).1, true)) := fun h => by rw [rebA_yes ⟨h1, h⟩, reb_lost]
  generalize rebA l a c = RR at *
  go_enter Try.func20, Try.ntmps20
  repeat (first | (go_at_call 16; refine (igbinds l ao cap _ hv hcap hn).mono ?_; rintro e w1 ⟨rfl, k1⟩; rw [dm]; dsimp only) | (go_at_call 63; refine (iclone c _ _ (hc.kept k1) hm).mono ?_; rintro e w2 ⟨v2, rfl, o2, k2⟩; obtain ⟨a2, p2, hf⟩ := o2.form; subst hf; dsimp only) | go_values | go_skip | go_guarded | go_step | go_upon)
  clear dm h1 hcs0
  have sW := k1.size
  have s12 := k2.size
  have ob0 := one_binds a a2 p2 w1.heap.size c o2 s12
  have K3w : Kept w1 (w2.alloc (.cells #[.string a, .slice a2 c.length p2] 85)) := k2.alloc _
  have K2 : Kept w w1 := k1
  obtain ⟨g0, hg0⟩ : ∃ g, w2.heap.size = g := ⟨_, rfl⟩
  rw [hg0] at ob0 ⊢
  obtain ⟨w3, hw3⟩ : ∃ u, w2.alloc (.cells #[.string a, .slice a2 c.length p2] 85) = u := ⟨_, rfl⟩
  rw [hw3] at ob0 K3w ⊢
  clear hg0 hw3 o2 k1 k2
  go_loopw [9, 10, 23] (fun ov lv i wr => ∃ (k : Nat), k ≤ l.length ∧ i = .int .i64 k ∧ lv = .string (rebI l a c k).1 ∧ BindsO wr w1.heap.size wr.heap.size ov (rebI l a c k).2 ∧ Kept w1 wr) (fun ov lv i _ => l.length - (intOf i).toNat)
  case atStart => exact ⟨0, by omega, rfl, rfl, ob0, K3w⟩
  case round =>
    obtain ⟨k, hk, rfl, rfl, ob, hkp⟩ := hrel
    have hol := rebI_len l a c k hk
    by_cases hlt : k < l.length
    · obtain ⟨d, hd⟩ : ∃ p, l[k]? = some p := ⟨_, List.getElem?_eq_getElem hlt⟩
      obtain ⟨b, o, cap', s, ee, c0, c1, hka⟩ := (hv.kept (K2.trans hkp)).get hd
      cases ee
      have hsz := hcs.out d (List.mem_of_getElem? hd)
      obtain ⟨nm, ch⟩ := d
      dsimp only at c0 c1 hka hsz
      obtain ⟨ah, ph, hsl⟩ := row_nil hka
      subst hsl
      obtain ⟨S0, hS0⟩ : ∃ s, rebI l a c k = s := ⟨_, rfl⟩
      have RE : Hid (rebI l a c (k + 1) = (if !(nm.toList == a.toList) && decide (ch = c) then nm else S0.1, if keepB a c (nm, ch) then S0.2 ++ [(nm, ch)] else S0.2)) := by
        show _ = _
        rw [← hS0]
        simp [rebI, hd]
      rw [hS0] at ob hol ⊢
      obtain ⟨lost, O⟩ := S0
      dsimp only at ob hol RE ⊢
      obtain ⟨ao3, p3, hf⟩ := ob.form
      subst hf
      have OB3 : Hid (BindsO (wr.alloc (.cells #[.string nm, .slice ah ch.length ph] 85)) w1.heap.size (wr.alloc (.cells #[.string nm, .slice ah ch.length ph] 85)).heap.size (.slice ao3 O.length p3) O) := (ob.kept ((But.refl _ _ wr).alloc _)).low
      have K3 : Hid (Kept w1 (wr.alloc (.cells #[.string nm, .slice ah ch.length ph] 85))) := hkp.alloc _
      have HNB : Hid (∀ g, (Value.slice ao3 O.length p3).ownBlock = some g → g ≠ wr.heap.size) := fun g hg => by
        obtain ⟨ts, ht, _⟩ := ob
        have := ht.row.2 g hg
        omega
      have HCH : Hid (NumAt (wr.alloc (.cells #[.string nm, .slice ah ch.length ph] 85)) (.slice ah ch.length ph) ch) := hka.kept ((But.refl _ _ wr).alloc _)
      have Lb := Loc.new wr [.string nm, .slice ah ch.length ph] 85
      clear hd hka hkp ob hS0 K3w ob0
      repeat (go_not_at_region 9; first | go_values | go_skip | go_guarded | go_step | go_upon)
      generalize wr.alloc (.cells #[.string nm, .slice ah ch.length ph] 85) = w3' at *
      have m0 := Lb.cell 0 rfl
      have m1 := Lb.cell 1 rfl
      clear c0 c1 Lb
      cases q1 : (nm.toList == a.toList) with
      | true =>
        have HR : Hid (rebI l a c (k + 1) = (lost, O)) := by
          show _ = _
          rw [RE.out]
          simp [keepB, q1]
        clear RE
        repeat (first | go_values | go_skip | go_guarded | go_step | go_upon)
        refine ⟨⟨k + 1, hlt, by go_num, ?_, ?_, K3.out⟩, by simp [intOf]; omega⟩
        · rw [HR.out]
        · rw [HR.out]; exact OB3.out.low
      | false =>
        have CC : Hid (Calls Try.prog 64 #[.slice ah ch.length ph, .slice ac c.length pc] w3' fun e w' => e = .returned (.bool (decide (ch = c))) ∧ Kept w3' w') := isame ch c _ _ w3' HCH.out (hc.kept (K2.trans K3.out)) hsz.2 hm
        by_cases q2 : ch = c
        · have HR : Hid (rebI l a c (k + 1) = (nm, O)) := by
            show _ = _
            rw [RE.out]
            simp [keepB, q1, q2]
          rw [decide_eq_true q2] at CC
          clear RE q2
          repeat (first | (go_at_call 64; refine CC.out.mono ?_; rintro e w6 ⟨rfl, k6⟩; have m0 := Kept.cell k6 m0; dsimp only) | go_values | go_skip | go_guarded | go_step | go_upon)
          refine ⟨⟨k + 1, hlt, by go_num, ?_, ?_, K3.out.trans k6⟩, by simp [intOf]; omega⟩
          · rw [HR.out]
          · rw [HR.out]; exact (OB3.out.kept k6).low
        · have HR : Hid (rebI l a c (k + 1) = (lost, O ++ [(nm, ch)])) := by
            show _ = _
            rw [RE.out]
            simp [keepB, q1, q2]
          rw [decide_eq_false q2] at CC
          clear RE q2
          repeat (first | (go_at_call 64; refine CC.out.mono ?_; rintro e w4 ⟨rfl, k4⟩; dsimp only) | go_values | go_skip | go_guarded | go_step | go_upon)
          have m0 := Kept.cell k4 m0
          have m1 := Kept.cell k4 m1
          have HCH : Hid (NumAt w4 (.slice ah ch.length ph) ch) := HCH.out.kept k4
          have OB3 : Hid (BindsO w4 w1.heap.size w4.heap.size (.slice ao3 O.length p3) O) := (OB3.out.kept k4).low
          have K3 : Hid (Kept w1 w4) := K3.out.trans k4
          have s3' := k4.size
          clear CC k4
          refine wp_region_Z (fun w' => w'.cell? ⟨wr.heap.size, 0, none⟩ = some (.string nm) ∧ w'.cell? ⟨wr.heap.size, 1, none⟩ = some (.slice ah ch.length ph)) 99 (by kernel_rfl) ?_
          have hS : (fun w' => w'.cell? ⟨wr.heap.size, 0, none⟩ = some (.string nm) ∧ w'.cell? ⟨wr.heap.size, 1, none⟩ = some (.slice ah ch.length ph)) w4.drew := ⟨m0, m1⟩
          refine wpAnyZ_take (i := 0) (v := .slice ao3 O.length p3) rfl (by kernel_rfl) (by kernel_rfl) (by kernel_rfl) (by kernel_rfl) (fun _ _ _ h => h) (Or.inl ⟨by rfl, ?_⟩) hS ?_
          · intro w' hSw; obtain ⟨s0, s1⟩ := hSw; go_simp
          try simp only [Act.put]
          refine wpAnyZ_take (i := 1) (v := .pointer (some ⟨wr.heap.size, 0, none⟩)) rfl (by kernel_rfl) (by kernel_rfl) (by kernel_rfl) (by kernel_rfl) (fun _ _ _ h => h) (Or.inl ⟨by rfl, ?_⟩) hS ?_
          · intro w' hSw; obtain ⟨s0, s1⟩ := hSw; go_simp
          try simp only [Act.put]
          refine wpAnyZ_take (i := 2) (v := .string nm) rfl (by kernel_rfl) (by kernel_rfl) (by kernel_rfl) (by kernel_rfl) (fun _ _ _ h => h) (Or.inl ⟨by rfl, ?_⟩) hS ?_
          · intro w' hSw; obtain ⟨s0, s1⟩ := hSw; go_simp
          try simp only [Act.put]
          refine wpAnyZ_take (i := 3) (v := .pointer (some ⟨wr.heap.size, 1, none⟩)) rfl (by kernel_rfl) (by kernel_rfl) (by kernel_rfl) (by kernel_rfl) (fun _ _ _ h => h) (Or.inl ⟨by rfl, ?_⟩) hS ?_
          · intro w' hSw; obtain ⟨s0, s1⟩ := hSw; go_simp
          try simp only [Act.put]
          refine wpAnyZ_take (i := 4) (v := .slice ah ch.length ph) rfl (by kernel_rfl) (by kernel_rfl) (by kernel_rfl) (by kernel_rfl) (fun _ _ _ h => h) (Or.inl ⟨by rfl, ?_⟩) hS ?_
          · intro w' hSw; obtain ⟨s0, s1⟩ := hSw; go_simp
          try simp only [Act.put]
          refine wpAnyZ_one (i := 5) (by kernel_rfl) rfl ?_
          intro K8 hK8
          rw [if_pos (by rfl)]
          go_simp
          go_at_call 63
          refine (iclone ch _ _ (HCH.out.kept ((But.refl _ _ w4).drew)) hsz.2).mono ?_
          rintro e w6 ⟨v6, rfl, o6, kd⟩
          have k6 : Kept w4 w6 := ((But.refl _ _ w4).drew).trans kd
          obtain ⟨a6, p6, hf⟩ := o6.form
          subst hf
          have s6 := k6.size
          have HO6 : Hid (NumO w6 w4.heap.size w6.heap.size (.slice a6 ch.length p6) ch) := o6
          have hSc : (fun w' => w'.cell? ⟨wr.heap.size, 0, none⟩ = some (.string nm) ∧ w'.cell? ⟨wr.heap.size, 1, none⟩ = some (.slice ah ch.length ph)) w6 := ⟨Kept.cell k6 m0, Kept.cell k6 m1⟩
          have HK6 : Hid (Kept w4 w6) := k6
          dsimp only
          refine hK8.out _ _ (fun _ => hSc) ?_
          clear hK8 K8 o6 kd hS k6
          try simp only [Act.put]
          refine wpAnyZ_take (i := 6) (v := .agg #[.string nm, .slice a6 ch.length p6]) rfl (by kernel_rfl) (by kernel_rfl) (by kernel_rfl) (by kernel_rfl) (fun _ _ _ h => h) (Or.inl ⟨by rfl, ?_⟩) hSc ?_
          · intro w' hSw; obtain ⟨s0, s1⟩ := hSw; go_simp
          try simp only [Act.put]
          refine wpAnyZ_one (i := 7) (by kernel_rfl) rfl ?_
          intro K8 hK8
          rw [if_pos (by rfl)]
          go_simp
          have hSd : (fun w' => w'.cell? ⟨wr.heap.size, 0, none⟩ = some (.string nm) ∧ w'.cell? ⟨wr.heap.size, 1, none⟩ = some (.slice ah ch.length ph)) (w6.alloc (.cells #[.string nm, .slice a6 ch.length p6] 85)) := ⟨Kept.cell ((But.refl _ _ w6).alloc _) hSc.1, Kept.cell ((But.refl _ _ w6).alloc _) hSc.2⟩
          refine hK8.out _ _ (fun _ => hSd) ?_
          clear hK8 K8
          try simp only [Act.put]
          refine wpAnyZ_one (i := 8) (by kernel_rfl) rfl ?_
          intro K8 hK8
          refine step_binds rfl (.tmp 27) (.tmp 34) rfl (lo := w1.heap.size) (mid := w4.heap.size) (by simp [Act.eval]) (OB3.out.kept (HK6.out.alloc _)) (by simp [Act.eval]) nm a6 p6 ch (Loc.new w6 [.string nm, .slice a6 ch.length p6] 85) ((HO6.out.kept ((But.refl _ _ w6).alloc _)).mono (Nat.le_refl _) (by simp)) (by have := K3.out.size; omega) (by simp; omega) (by omega) ?_
          intro v9 w9 o9 q9 b9 _
          have HO9 : Hid (BindsO w9 w1.heap.size w9.heap.size v9 (O ++ [(nm, ch)])) := o9
          have HK9 : Hid (Kept w1 w9) := q9 _ ((K3.out.trans HK6.out).alloc _) (Nat.le_refl _)
          have hSe : (fun w' => w'.cell? ⟨wr.heap.size, 0, none⟩ = some (.string nm) ∧ w'.cell? ⟨wr.heap.size, 1, none⟩ = some (.slice ah ch.length ph)) w9 := ⟨But.cell b9 hSd.1 (but_ne HNB.out), But.cell b9 hSd.2 (but_ne HNB.out)⟩
          refine hK8.out _ _ (fun _ => hSe) ?_
          clear hK8 K8 o9 q9 b9 hSc hSd HO6 HK6
          try simp only [Act.put]
          refine wpAnyZ_one (i := 9) (by kernel_rfl) rfl ?_
          intro K8 hK8
          rw [if_pos (by rfl)]
          go_simp
          refine hK8.out _ _ (fun _ => hSe) ?_
          clear hK8 K8
          refine wpAnyZ_done (by kernel_rfl) ?_ _
          try simp only [Act.put]
          clear hSe
          repeat (first | go_values | go_skip | go_guarded | go_step | go_upon)
          refine ⟨⟨k + 1, hlt, by go_num, ?_, ?_, HK9.out⟩, by simp [intOf]; omega⟩
          · rw [HR.out]
          · rw [HR.out]; exact HO9.out
    · have hke : k = l.length := by omega
      subst hke
      have HRM := rebR_mem HRis.out a c
      have HRL := rebR_len HRis.out a c
      have HRS := rebR_spec HRis.out a c
      have HEACH : Hid (∀ d ∈ rebR l a c, d.1.size ≤ 1048576 ∧ d.2.length ≤ 1048576) := fun d hd => by
        rcases (HRM d).1 hd with rfl | ⟨h, _⟩
        · exact ⟨ha, hm⟩
        · exact hcs.out d h
      have hL1 : 0 < (rebI l a c l.length).2.length := by rw [rebI_list]; simp
      obtain ⟨S0, hS0⟩ : ∃ s, rebI l a c l.length = s := ⟨_, rfl⟩
      rw [hS0] at ob hol YES HRS hL1 ⊢
      obtain ⟨lost, O⟩ := S0
      dsimp only at ob hol YES HRS hL1 ⊢
      obtain ⟨R, hR⟩ : ∃ R, rebR l a c = R := ⟨_, rfl⟩
      rw [hR] at HRL HEACH YES NO HRS
      obtain ⟨ao0, p0, hf⟩ := ob.form
      subst hf
      have hRl : R.length = O.length := HRS.1.length_eq
      have HSF0 := sortBinds O R _ wr w1.heap.size ob HRS.1 HRS.2 (by omega) hL1
      rw [← hRl] at HSF0 ⊢
      have HSF : Hid (Calls Try.prog 65 #[.slice ao0 R.length p0, .func (.func 66) #[] #[]] wr fun e w' => e = .returned (.tuple #[]) ∧ BindsO w' w1.heap.size w'.heap.size (.slice ao0 R.length p0) R ∧ But w1.heap.size wr.heap.size wr w') := HSF0
      have K3 : Hid (Kept w1 wr) := hkp
      clear HSF0 ob hkp HRM hR hS0 hlt hk hv HRS hL1 hRl K3w ob0 hol
      have HCG : Hid (∀ u, BindsO u w1.heap.size u.heap.size (.slice ao0 R.length p0) R → Calls Try.prog 16 #[.slice ao0 R.length p0] u fun e w' => e = .returned (.bool (dec (BindsP R))) ∧ Kept u w') := fun u h => igbindsW R ao0 p0 u h.at (cap_of h) (by omega) HEACH.out
      rcases (Classical.em (BindsP R)).symm with hg | hg
      · rw [dec_no hg] at HCG
        have hRR := NO.out hg
        subst hRR
        clear hg NO YES
        repeat (first | (go_at_call 65; refine HSF.out.mono ?_; rintro e w7 ⟨rfl, o7, b7⟩; have K7 : Hid (Kept w1 w7) := But.onto K3.out b7 (Nat.le_refl _); have O7 : Hid (BindsO w7 w1.heap.size w7.heap.size (.slice ao0 R.length p0) R) := o7; clear o7 b7; dsimp only) | (go_at_call 16; refine (HCG.out _ O7.out).mono ?_; rintro e w8 ⟨rfl, k8⟩; dsimp only) | go_values | go_skip | go_guarded | go_step | go_upon)
        go_returns
        exact ⟨_, rfl, nil_binds _ _ _, K2.trans (K7.out.trans k8)⟩
      · rw [dec_yes hg] at HCG
        have hRR := YES.out hg
        subst hRR
        clear hg NO YES
        repeat (first | (go_at_call 65; refine HSF.out.mono ?_; rintro e w7 ⟨rfl, o7, b7⟩; have K7 : Hid (Kept w1 w7) := But.onto K3.out b7 (Nat.le_refl _); have O7 : Hid (BindsO w7 w1.heap.size w7.heap.size (.slice ao0 R.length p0) R) := o7; clear o7 b7; dsimp only) | (go_at_call 16; refine (HCG.out _ O7.out).mono ?_; rintro e w8 ⟨rfl, k8⟩; dsimp only) | go_values | go_skip | go_guarded | go_step | go_upon)
        go_returns
        exact ⟨_, rfl, ((O7.out.kept k8).low).mono (by omega) (Nat.le_refl _), K2.trans (K7.out.trans k8)⟩

end Go.Proofs.Ythkfpbknfjapaaa
