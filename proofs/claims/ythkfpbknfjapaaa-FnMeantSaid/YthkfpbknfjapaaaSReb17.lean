/-
  Rebind in the specification.
-/
import Derived.Test.YthkfpbknfjapaaaRebP17
import Derived.Test.YthkfpbknfjapaaaBApp17
import Derived.Test.YthkfpbknfjapaaaGBS17
import Derived.Test.YthkfpbknfjapaaaZed17
import Derived.Deep.DeepCutAuto
namespace Go.Proofs.Ythkfpbknfjapaaa
open Go.ChangeShapes Go.WideShapes Go.ChangeAt Go.RowKit

set_option maxRecDepth 100000
set_option linter.unusedVariables false

set_option maxHeartbeats 16000000 in
theorem srebind (l : List BindD) (a : ByteArray) (c : List Int) (ao : Option Addr) (cap : Nat) (ac : Option Addr) (pc : Nat) (w : World) (hv : BindsAt w (.slice ao l.length cap) l) (hcap : l.length ≤ cap ∧ cap ≤ 9223372036854775807) (hc : NumAt w (.slice ac c.length pc) c) (hn : bindsCost l ≤ 1048576) (ha : a.size ≤ 1048576) (hm : c.length ≤ 1048576) :
    Calls Try.prog 18 #[.slice ao l.length cap, .string a, .slice ac c.length pc] w fun e w' => ∃ v', e = .returned (.tuple #[v', .string (rebA l a c).2.1, .bool (rebA l a c).2.2]) ∧ BindsO w' w.heap.size w'.heap.size v' (rebA l a c).1 ∧ Kept w w' := by
  rcases (Classical.em (BindsP l)).symm with h1 | h1
  · have dm : dec (BindsP l) = false := dec_no h1
    rw [rebA_no (fun h => h1 h.1)]
    go_enter Try.func18, Try.ntmps18
    repeat (first | (go_at_call 14; refine (sgbinds l ao cap _ hv hcap hn).mono ?_; rintro e w1 ⟨rfl, k1⟩; rw [dm]; dsimp only) | (go_at_call 55; refine (sname a _ ha).mono ?_; rintro e w3 ⟨rfl, hw3⟩; rw [hw3, dn]; clear hw3 w3; dsimp only) | (go_at_call 56; refine (schord c _ _ (hc.kept k1) hm).mono ?_; rintro e w2 ⟨rfl, k2⟩; rw [dc]; dsimp only) | go_values | go_skip | go_guarded | go_step | go_upon)
    go_returns
    exact ⟨_, rfl, nil_binds _ _ _, k1⟩
  have dm : dec (BindsP l) = true := dec_yes h1
  rcases (Classical.em (nameB a = true)).symm with h2 | h2
  · have dn : nameB a = false := Bool.eq_false_iff.2 h2
    rw [rebA_no (fun h => h2 (rebOk_name h).1)]
    go_enter Try.func18, Try.ntmps18
    repeat (first | (go_at_call 14; refine (sgbinds l ao cap _ hv hcap hn).mono ?_; rintro e w1 ⟨rfl, k1⟩; rw [dm]; dsimp only) | (go_at_call 55; refine (sname a _ ha).mono ?_; rintro e w3 ⟨rfl, hw3⟩; rw [hw3, dn]; clear hw3 w3; dsimp only) | (go_at_call 56; refine (schord c _ _ (hc.kept k1) hm).mono ?_; rintro e w2 ⟨rfl, k2⟩; rw [dc]; dsimp only) | go_values | go_skip | go_guarded | go_step | go_upon)
    go_returns
    exact ⟨_, rfl, nil_binds _ _ _, k1⟩
  have dn : nameB a = true := h2
  rcases (Classical.em (ChordP c)).symm with h3 | h3
  · have dc : dec (ChordP c) = false := dec_no h3
    rw [rebA_no (fun h => h3 (rebOk_name h).2)]
    go_enter Try.func18, Try.ntmps18
    repeat (first | (go_at_call 14; refine (sgbinds l ao cap _ hv hcap hn).mono ?_; rintro e w1 ⟨rfl, k1⟩; rw [dm]; dsimp only) | (go_at_call 55; refine (sname a _ ha).mono ?_; rintro e w3 ⟨rfl, hw3⟩; rw [hw3, dn]; clear hw3 w3; dsimp only) | (go_at_call 56; refine (schord c _ _ (hc.kept k1) hm).mono ?_; rintro e w2 ⟨rfl, k2⟩; rw [dc]; dsimp only) | go_values | go_skip | go_guarded | go_step | go_upon)
    go_returns
    exact ⟨_, rfl, nil_binds _ _ _, k1.trans k2⟩
  have dc : dec (ChordP c) = true := dec_yes h3
  obtain ⟨hln, hcs0⟩ := binds_each hn
  have hcs : Hid (∀ d ∈ l, d.1.size ≤ 1048576 ∧ d.2.length ≤ 1048576) := hcs0
  have h20 := h1.1
  have HRis : Hid (Ris l) := binds_ris h1
  have NO : Hid (¬ BindsP (rebR l a c) → rebA l a c = ([], ⟨#[]⟩, false)) := fun h => rebA_no (fun h' => h h'.2)
  have YES : Hid (BindsP (rebR l a c) → rebA l a c = (rebR l a c, (rebS l a c l.length).2.1, true)) := fun h => rebA_yes ⟨h1, h⟩
  generalize rebA l a c = RR at *
  go_enter Try.func18, Try.ntmps18
  repeat (first | (go_at_call 14; refine (sgbinds l ao cap _ hv hcap hn).mono ?_; rintro e w1 ⟨rfl, k1⟩; rw [dm]; dsimp only) | (go_at_call 55; refine (sname a _ ha).mono ?_; rintro e w3 ⟨rfl, hw3⟩; rw [hw3, dn]; clear hw3 w3; dsimp only) | (go_at_call 56; refine (schord c _ _ (hc.kept k1) hm).mono ?_; rintro e w2 ⟨rfl, k2⟩; rw [dc]; dsimp only) | go_values | go_skip | go_guarded | go_step | go_upon)
  clear dm dn dc h1 h2 h3 hcs0
  have K2 : Kept w w2 := k1.trans k2
  clear k1 k2
  rename World => W2
  have sW2 := K2.size
  go_loopw [9, 10, 11, 29] (fun lv ov pv i wr => ∃ (k : Nat), k ≤ l.length ∧ i = .int .i64 k ∧ lv = .string (rebS l a c k).2.1 ∧ pv = .bool (rebS l a c k).1 ∧ BindsO wr W2.heap.size wr.heap.size ov (rebS l a c k).2.2 ∧ Kept W2 wr) (fun lv ov pv i _ => l.length - (intOf i).toNat)
  case atStart => exact ⟨0, by omega, rfl, rfl, rfl, nil_binds _ _ _, But.refl _ _ _⟩
  case round =>
    obtain ⟨k, hk, rfl, rfl, rfl, ob, hkp⟩ := hrel
    have hol := rebS_len l a c k
    by_cases hlt : k < l.length
    · obtain ⟨d, hd⟩ : ∃ p, l[k]? = some p := ⟨_, List.getElem?_eq_getElem hlt⟩
      obtain ⟨b, o, cap', s, ee, c0, c1, hka⟩ := (hv.kept (K2.trans hkp)).get hd
      cases ee
      have hsz := hcs.out d (List.mem_of_getElem? hd)
      obtain ⟨nm, ch⟩ := d
      dsimp only at c0 c1 hka hsz
      obtain ⟨ah, ph, hsl⟩ := row_nil hka
      subst hsl
      have hkw : NumAt w (.slice ah ch.length ph) ch := by
        obtain ⟨b', o', cap'', s', ee, x0, x1, hka'⟩ := hv.get hd
        cases ee
        have := Kept.cell (K2.trans hkp) x1
        rw [c1] at this
        cases this
        exact hka'
      obtain ⟨S0, hS0⟩ : ∃ s, rebS l a c k = s := ⟨_, rfl⟩
      have RE0 : Hid (rebS l a c (k + 1) = (S0.1 || !less nm a, if !(nm.toList == a.toList) && decide (ch = c) then nm else S0.2.1, if keepB a c (nm, ch) then (if !S0.1 && !less nm a then S0.2.2 ++ [(a, c)] else S0.2.2) ++ [(nm, ch)] else (if !S0.1 && !less nm a then S0.2.2 ++ [(a, c)] else S0.2.2))) := by
        show _ = _
        rw [← hS0]
        simp [rebS, hd]
      rw [hS0] at ob hol ⊢
      obtain ⟨pt0, lost, O0⟩ := S0
      dsimp only at ob hol RE0 ⊢
      obtain ⟨ao0, p0, hf⟩ := ob.form
      subst hf
      have OB : Hid (BindsO wr W2.heap.size wr.heap.size (.slice ao0 O0.length p0) O0) := ob
      have HKA : Hid (NumAt w (.slice ah ch.length ph) ch) := hkw
      have K : Kept W2 wr := hkp
      have sr := hkp.size
      have Lb := Loc.new wr [.string nm, .slice ah ch.length ph] 85
      have OB3 : Hid (BindsO (wr.alloc (.cells #[.string nm, .slice ah ch.length ph] 85)) W2.heap.size (wr.alloc (.cells #[.string nm, .slice ah ch.length ph] 85)).heap.size (.slice ao0 O0.length p0) O0) := (ob.kept ((But.refl _ _ wr).alloc _)).low
      have K3 : Hid (Kept W2 (wr.alloc (.cells #[.string nm, .slice ah ch.length ph] 85))) := hkp.alloc _
      have s3 : (wr.alloc (.cells #[.string nm, .slice ah ch.length ph] 85)).heap.size = wr.heap.size + 1 := by simp
      have HNB : Hid (∀ g, (Value.slice ao0 O0.length p0).ownBlock = some g → g ≠ wr.heap.size) := fun g hg => by
        obtain ⟨ts, ht, _⟩ := OB.out
        have := ht.row.2 g hg
        omega
      clear hd hka hkw hkp ob hS0 K
      have hll : less nm a = Op.bytesLess nm.toList a.toList := rfl
      have HLL : Hid (less nm a = Op.bytesLess nm.toList a.toList) := hll
      clear hll
      repeat (go_not_at_region 9; first | go_values | go_skip | go_guarded | go_step | go_upon)
      generalize wr.alloc (.cells #[.string nm, .slice ah ch.length ph] 85) = w3 at *
      have hll := HLL.out
      have HS3 : Hid (w3.heap.size = wr.heap.size + 1) := s3
      clear HLL s3
      have m0 := Lb.cell 0 rfl
      have m1 := Lb.cell 1 rfl
      have HCH : Hid (NumAt w3 (.slice ah ch.length ph) ch) := HKA.out.kept (K2.trans K3.out)
      clear c0 c1
      by_cases hA : pt0 = false ∧ less nm a = false
      · obtain ⟨hA1, hA2⟩ := hA
        subst hA1
        have q0 : Op.bytesLess nm.toList a.toList = false := by rw [← hll]; exact hA2
        have RE : Hid (rebS l a c (k + 1) = (true, if !(nm.toList == a.toList) && decide (ch = c) then nm else lost, if keepB a c (nm, ch) then (O0 ++ [(a, c)]) ++ [(nm, ch)] else (O0 ++ [(a, c)]))) := by
          show _ = _
          rw [RE0.out, hA2]
          rfl
        clear RE0 hll hA2
        repeat (first | (at_builtin; refine forgetL (fun w' => w' = _) rfl ?_) | go_values | go_skip | go_guarded | go_step | go_upon)
        intro W7 hW7
        rw [hW7]
        clear hW7 W7
        refine app_num rfl _ _ rfl (lo := w3.heap.size) (hi := w3.heap.size + 1) rfl (own_empty w3) rfl (hc.kept (K2.trans (K3.out.alloc _))) rfl (by simp; omega) (by simp) ?_
        intro v4 w4 o4 b4
        simp only [List.nil_append] at o4
        have k4 : Kept w3 w4 := But.onto ((But.refl _ _ w3).alloc _) b4 (Nat.le_refl _)
        obtain ⟨a4, p4, hf⟩ := o4.form
        subst hf
        have s4 := k4.size
        have HO4 : Hid (NumO w4 w3.heap.size w4.heap.size (.slice a4 c.length p4) c) := o4
        have HK4 : Hid (Kept w3 w4) := k4
        clear o4 b4 k4
        repeat (first | (at_builtin; refine forgetL (fun w' => w' = _) rfl ?_) | go_values | go_skip | go_guarded | go_step | go_upon)
        intro W7 hW7
        rw [hW7]
        clear hW7 W7
        refine appw_binds rfl _ _ rfl (lo := W2.heap.size) (mid := w3.heap.size) rfl (OB3.out.kept (HK4.out.alloc _)) rfl a a4 p4 c (Loc.new w4 [.string a, .slice a4 c.length p4] 85) ((HO4.out.kept ((But.refl _ _ w4).alloc _)).mono (Nat.le_refl _) (by simp)) (by have := (K3.out).size; omega) (by simp; omega) (by omega) ?_
        intro v5 w5 o5 q5 b5 l5
        have k5 : Kept W2 w5 := q5 _ ((K3.out.trans HK4.out).alloc _) (Nat.le_refl _)
        obtain ⟨O5, hO5⟩ : ∃ Q9, O0 ++ [(a, c)] = Q9 := ⟨_, rfl⟩
        rw [hO5] at o5
        obtain ⟨a5, p5, hf⟩ := o5.form
        subst hf
        have s5 := k5.size
        have HO5 : Hid (BindsO w5 W2.heap.size w5.heap.size (.slice a5 O5.length p5) O5) := o5
        have HK5 : Hid (Kept W2 w5) := k5
        have HNB5 : Hid (∀ g, (Value.slice a5 O5.length p5).ownBlock = some g → g ≠ wr.heap.size) := fun g hg => by
          rcases l5 with l5 | l5
          · rw [l5] at hg
            obtain ⟨ts, ht, _⟩ := OB.out
            have := ht.row.2 g hg
            omega
          · rw [l5] at hg
            cases hg
            have := HS3.out
            simp
            omega
        have Lb5 : Loc w5 wr.heap.size [.string nm, .slice ah ch.length ph] := ((Lb.kept HK4.out).alloc _).but b5 (but_ne (fun g hg => by
          obtain ⟨ts, ht, _⟩ := OB.out
          have := ht.row.2 g hg
          omega))
        have m0 := Lb5.cell 0 rfl
        have m1 := Lb5.cell 1 rfl
        clear o5 q5 k5 HO4 HK4 b5 l5
        clear q0 Lb Lb5 OB3 K3 HCH HNB
        have hO5l : O5.length = O0.length + 1 := by rw [← hO5]; simp
        rw [hO5] at RE
        have HCH : Hid (NumAt w5 (.slice ah ch.length ph) ch) := HKA.out.kept (K2.trans HK5.out)
        have hOl : O5.length ≤ 100000 := by omega
        clear hO5 hO5l
        cases q1 : (nm.toList == a.toList) with
        | true =>
          have HR : Hid (rebS l a c (k + 1) = (true, lost, O5)) := by
            show _ = _
            rw [RE.out]
            simp [keepB, q1]
          clear RE
          repeat (first | go_values | go_skip | go_guarded | go_step | go_upon)
          refine ⟨⟨k + 1, hlt, by go_num, ?_, ?_, ?_, HK5.out⟩, by simp [intOf]; omega⟩
          · rw [HR.out]
          · rw [HR.out]
          · rw [HR.out]; exact HO5.out.low
        | false =>
          have CC : Hid (Calls Try.prog 57 #[.slice ah ch.length ph, .slice ac c.length pc] w5 fun e w' => e = .returned (.bool (decide (ch = c))) ∧ Kept w5 w') := ssame ch c _ _ w5 HCH.out (hc.kept (K2.trans HK5.out)) hsz.2 hm
          by_cases q2 : ch = c
          · have HR : Hid (rebS l a c (k + 1) = (true, nm, O5)) := by
              show _ = _
              rw [RE.out]
              simp [keepB, q1, q2]
            rw [decide_eq_true q2] at CC
            clear RE q2
            repeat (first | (go_at_call 57; refine CC.out.mono ?_; rintro e w6 ⟨rfl, k6⟩; have m0 := Kept.cell k6 m0; dsimp only) | go_values | go_skip | go_guarded | go_step | go_upon)
            refine ⟨⟨k + 1, hlt, by go_num, ?_, ?_, ?_, HK5.out.trans k6⟩, by simp [intOf]; omega⟩
            · rw [HR.out]
            · rw [HR.out]
            · rw [HR.out]; exact (HO5.out.kept k6).low
          · have HR : Hid (rebS l a c (k + 1) = (true, lost, O5 ++ [(nm, ch)])) := by
              show _ = _
              rw [RE.out]
              simp [keepB, q1, q2]
            rw [decide_eq_false q2] at CC
            clear RE q2
            repeat (first | (go_at_call 57; refine CC.out.mono ?_; rintro e w5' ⟨rfl, k3⟩; dsimp only) | go_values | go_skip | go_guarded | go_step | go_upon)
            have m0 := Kept.cell k3 m0
            have m1 := Kept.cell k3 m1
            have HO5 : Hid (BindsO w5' W2.heap.size w5.heap.size (.slice a5 O5.length p5) O5) := HO5.out.kept k3
            have HCH : Hid (NumAt w5' (.slice ah ch.length ph) ch) := HCH.out.kept k3
            have HK5 : Hid (Kept W2 w5') := HK5.out.trans k3
            have s3' := k3.size
            have HO5 : Hid (BindsO w5' W2.heap.size w5'.heap.size (.slice a5 O5.length p5) O5) := HO5.out.low
            clear CC k3
            refine wp_region_Z (fun w' => w'.cell? ⟨wr.heap.size, 0, none⟩ = some (.string nm) ∧ w'.cell? ⟨wr.heap.size, 1, none⟩ = some (.slice ah ch.length ph)) 99 (by kernel_rfl) ?_
            have hS : (fun w' => w'.cell? ⟨wr.heap.size, 0, none⟩ = some (.string nm) ∧ w'.cell? ⟨wr.heap.size, 1, none⟩ = some (.slice ah ch.length ph)) w5'.drew := ⟨m0, m1⟩
            refine wpAnyZ_take (i := 0) (v := .slice a5 O5.length p5) rfl (by kernel_rfl) (by kernel_rfl) (by kernel_rfl) (by kernel_rfl) (fun _ _ _ h => h) (Or.inl ⟨by rfl, ?_⟩) hS ?_
            · intro w' hSw; obtain ⟨s0, s1⟩ := hSw; go_simp
            try simp only [Act.put]
            refine wpAnyZ_take (i := 1) (v := .pointer (some ⟨wr.heap.size, 0, none⟩)) rfl (by kernel_rfl) (by kernel_rfl) (by kernel_rfl) (by kernel_rfl) (fun _ _ _ h => h) (Or.inl ⟨by rfl, ?_⟩) hS ?_
            · intro w' hSw; obtain ⟨s0, s1⟩ := hSw; go_simp
            try simp only [Act.put]
            refine wpAnyZ_take (i := 2) (v := .string nm) rfl (by kernel_rfl) (by kernel_rfl) (by kernel_rfl) (by kernel_rfl) (fun _ _ _ h => h) (Or.inl ⟨by rfl, ?_⟩) hS ?_
            · intro w' hSw; obtain ⟨s0, s1⟩ := hSw; go_simp
            try simp only [Act.put]
            refine wpAnyZ_take (i := 4) (v := .pointer (some ⟨wr.heap.size, 1, none⟩)) rfl (by kernel_rfl) (by kernel_rfl) (by kernel_rfl) (by kernel_rfl) (fun _ _ _ h => h) (Or.inl ⟨by rfl, ?_⟩) hS ?_
            · intro w' hSw; obtain ⟨s0, s1⟩ := hSw; go_simp
            try simp only [Act.put]
            refine wpAnyZ_take (i := 5) (v := .slice ah ch.length ph) rfl (by kernel_rfl) (by kernel_rfl) (by kernel_rfl) (by kernel_rfl) (fun _ _ _ h => h) (Or.inl ⟨by rfl, ?_⟩) hS ?_
            · intro w' hSw; obtain ⟨s0, s1⟩ := hSw; go_simp
            try simp only [Act.put]
            refine wpAnyZ_one (i := 3) (by kernel_rfl) rfl ?_
            intro K8 hK8
            rw [if_pos (by rfl)]
            go_simp
            have kd : Kept w5' (w5'.alloc (.cells #[] 3)).drew := ((But.refl _ _ w5').alloc _).drew
            have hSb : (fun w' => w'.cell? ⟨wr.heap.size, 0, none⟩ = some (.string nm) ∧ w'.cell? ⟨wr.heap.size, 1, none⟩ = some (.slice ah ch.length ph)) (w5'.alloc (.cells #[] 3)).drew := ⟨Kept.cell kd m0, Kept.cell kd m1⟩
            refine hK8.out _ _ (fun _ => hSb) ?_
            clear hK8 K8
            try simp only [Act.put]
            refine wpAnyZ_one (i := 6) (by kernel_rfl) rfl ?_
            intro K8 hK8
            refine step_num rfl (.tmp 62) (.tmp 64) rfl (lo := w5'.heap.size) (hi := w5'.heap.size + 1) (by simp [Act.eval]) (NumO.kept (own_empty w5') ((But.refl _ _ _).drew)) (by simp [Act.eval]) (HCH.out.kept kd) rfl (by simp; omega) (by simp) ?_
            intro v6 w6 o6 b6
            simp only [List.nil_append] at o6
            have k6 : Kept w5' w6 := But.onto kd b6 (Nat.le_refl _)
            obtain ⟨a6, p6, hf⟩ := o6.form
            subst hf
            have s6 := k6.size
            have HO6 : Hid (NumO w6 w5'.heap.size w6.heap.size (.slice a6 ch.length p6) ch) := o6
            have hSc : (fun w' => w'.cell? ⟨wr.heap.size, 0, none⟩ = some (.string nm) ∧ w'.cell? ⟨wr.heap.size, 1, none⟩ = some (.slice ah ch.length ph)) w6 := ⟨Kept.cell k6 m0, Kept.cell k6 m1⟩
            have HK6 : Hid (Kept w5' w6) := k6
            refine hK8.out _ _ (fun _ => hSc) ?_
            clear hK8 K8 o6 b6 hS hSb kd k6
            try simp only [Act.put]
            refine wpAnyZ_take (i := 7) (v := .agg #[.string nm, .slice a6 ch.length p6]) rfl (by kernel_rfl) (by kernel_rfl) (by kernel_rfl) (by kernel_rfl) (fun _ _ _ h => h) (Or.inl ⟨by rfl, ?_⟩) hSc ?_
            · intro w' hSw; obtain ⟨s0, s1⟩ := hSw; go_simp
            try simp only [Act.put]
            refine wpAnyZ_one (i := 8) (by kernel_rfl) rfl ?_
            intro K8 hK8
            rw [if_pos (by rfl)]
            go_simp
            have hSd : (fun w' => w'.cell? ⟨wr.heap.size, 0, none⟩ = some (.string nm) ∧ w'.cell? ⟨wr.heap.size, 1, none⟩ = some (.slice ah ch.length ph)) (w6.alloc (.cells #[.string nm, .slice a6 ch.length p6] 85)) := ⟨Kept.cell ((But.refl _ _ w6).alloc _) hSc.1, Kept.cell ((But.refl _ _ w6).alloc _) hSc.2⟩
            refine hK8.out _ _ (fun _ => hSd) ?_
            clear hK8 K8
            try simp only [Act.put]
            refine wpAnyZ_one (i := 9) (by kernel_rfl) rfl ?_
            intro K8 hK8
            refine step_binds rfl (.tmp 59) (.tmp 67) rfl (lo := W2.heap.size) (mid := w5'.heap.size) (by simp [Act.eval]) (HO5.out.kept (HK6.out.alloc _)) (by simp [Act.eval]) nm a6 p6 ch (Loc.new w6 [.string nm, .slice a6 ch.length p6] 85) ((HO6.out.kept ((But.refl _ _ w6).alloc _)).mono (Nat.le_refl _) (by simp)) (by have := HK5.out.size; omega) (by simp; omega) (by omega) ?_
            intro v9 w9 o9 q9 b9 _
            have HO9 : Hid (BindsO w9 W2.heap.size w9.heap.size v9 (O5 ++ [(nm, ch)])) := o9
            have HK9 : Hid (Kept W2 w9) := q9 _ ((HK5.out.trans HK6.out).alloc _) (Nat.le_refl _)
            have hSe : (fun w' => w'.cell? ⟨wr.heap.size, 0, none⟩ = some (.string nm) ∧ w'.cell? ⟨wr.heap.size, 1, none⟩ = some (.slice ah ch.length ph)) w9 := ⟨But.cell b9 hSd.1 (but_ne HNB5.out), But.cell b9 hSd.2 (but_ne HNB5.out)⟩
            refine hK8.out _ _ (fun _ => hSe) ?_
            clear hK8 K8 o9 q9 b9 hSc hSd HO6 HK6
            try simp only [Act.put]
            refine wpAnyZ_one (i := 10) (by kernel_rfl) rfl ?_
            intro K8 hK8
            rw [if_pos (by rfl)]
            go_simp
            refine hK8.out _ _ (fun _ => hSe) ?_
            clear hK8 K8
            refine wpAnyZ_done (by kernel_rfl) ?_ _
            try simp only [Act.put]
            clear hSe
            repeat (first | go_values | go_skip | go_guarded | go_step | go_upon)
            refine ⟨⟨k + 1, hlt, by go_num, ?_, ?_, ?_, HK9.out⟩, by simp [intOf]; omega⟩
            · rw [HR.out]
            · rw [HR.out]
            · rw [HR.out]; exact HO9.out
      · have q0 : (!pt0 && !Op.bytesLess nm.toList a.toList) = false := by
          rw [← hll]
          cases pt0 <;> cases hh : less nm a <;> simp_all
        have RE : Hid (rebS l a c (k + 1) = (pt0, if !(nm.toList == a.toList) && decide (ch = c) then nm else lost, if keepB a c (nm, ch) then O0 ++ [(nm, ch)] else O0)) := by
          show _ = _
          rw [RE0.out]
          have e1 : (!pt0 && !less nm a) = false := by rw [hll]; exact q0
          have e2 : (pt0 || !less nm a) = pt0 := by
            cases pt0
            · simp at e1 ⊢
              exact e1
            · rfl
          rw [e1, e2]
          rfl
        have hpt : pt0 = true ∨ (pt0 = false ∧ Op.bytesLess nm.toList a.toList = true) := by
          cases pt0
          · right; simpa using q0
          · left; rfl
        clear RE0 hll hA q0
        have hOl : O0.length ≤ 100000 := by omega
        clear Lb OB HKA
        rcases hpt with hpt | ⟨hpt, q0⟩
        · subst hpt
          cases q1 : (nm.toList == a.toList) with
          | true =>
            have HR : Hid (rebS l a c (k + 1) = (true, lost, O0)) := by
              show _ = _
              rw [RE.out]
              simp [keepB, q1]
            clear RE
            repeat (first | go_values | go_skip | go_guarded | go_step | go_upon)
            refine ⟨⟨k + 1, hlt, by go_num, ?_, ?_, ?_, K3.out⟩, by simp [intOf]; omega⟩
            · rw [HR.out]
            · rw [HR.out]
            · rw [HR.out]; exact OB3.out.low
          | false =>
            have CC : Hid (Calls Try.prog 57 #[.slice ah ch.length ph, .slice ac c.length pc] w3 fun e w' => e = .returned (.bool (decide (ch = c))) ∧ Kept w3 w') := ssame ch c _ _ w3 HCH.out (hc.kept (K2.trans K3.out)) hsz.2 hm
            by_cases q2 : ch = c
            · have HR : Hid (rebS l a c (k + 1) = (true, nm, O0)) := by
                show _ = _
                rw [RE.out]
                simp [keepB, q1, q2]
              rw [decide_eq_true q2] at CC
              clear RE q2
              repeat (first | (go_at_call 57; refine CC.out.mono ?_; rintro e w6 ⟨rfl, k6⟩; have m0 := Kept.cell k6 m0; dsimp only) | go_values | go_skip | go_guarded | go_step | go_upon)
              refine ⟨⟨k + 1, hlt, by go_num, ?_, ?_, ?_, K3.out.trans k6⟩, by simp [intOf]; omega⟩
              · rw [HR.out]
              · rw [HR.out]
              · rw [HR.out]; exact (OB3.out.kept k6).low
            · have HR : Hid (rebS l a c (k + 1) = (true, lost, O0 ++ [(nm, ch)])) := by
                show _ = _
                rw [RE.out]
                simp [keepB, q1, q2]
              rw [decide_eq_false q2] at CC
              clear RE q2
              repeat (first | (go_at_call 57; refine CC.out.mono ?_; rintro e w3' ⟨rfl, k3⟩; dsimp only) | go_values | go_skip | go_guarded | go_step | go_upon)
              have m0 := Kept.cell k3 m0
              have m1 := Kept.cell k3 m1
              have OB3 : Hid (BindsO w3' W2.heap.size w3.heap.size (.slice ao0 O0.length p0) O0) := OB3.out.kept k3
              have HCH : Hid (NumAt w3' (.slice ah ch.length ph) ch) := HCH.out.kept k3
              have K3 : Hid (Kept W2 w3') := K3.out.trans k3
              have s3' := k3.size
              have OB3 : Hid (BindsO w3' W2.heap.size w3'.heap.size (.slice ao0 O0.length p0) O0) := OB3.out.low
              clear CC k3
              refine wp_region_Z (fun w' => w'.cell? ⟨wr.heap.size, 0, none⟩ = some (.string nm) ∧ w'.cell? ⟨wr.heap.size, 1, none⟩ = some (.slice ah ch.length ph)) 99 (by kernel_rfl) ?_
              have hS : (fun w' => w'.cell? ⟨wr.heap.size, 0, none⟩ = some (.string nm) ∧ w'.cell? ⟨wr.heap.size, 1, none⟩ = some (.slice ah ch.length ph)) w3'.drew := ⟨m0, m1⟩
              refine wpAnyZ_take (i := 0) (v := .slice ao0 O0.length p0) rfl (by kernel_rfl) (by kernel_rfl) (by kernel_rfl) (by kernel_rfl) (fun _ _ _ h => h) (Or.inl ⟨by rfl, ?_⟩) hS ?_
              · intro w' hSw; obtain ⟨s0, s1⟩ := hSw; go_simp
              try simp only [Act.put]
              refine wpAnyZ_take (i := 1) (v := .pointer (some ⟨wr.heap.size, 0, none⟩)) rfl (by kernel_rfl) (by kernel_rfl) (by kernel_rfl) (by kernel_rfl) (fun _ _ _ h => h) (Or.inl ⟨by rfl, ?_⟩) hS ?_
              · intro w' hSw; obtain ⟨s0, s1⟩ := hSw; go_simp
              try simp only [Act.put]
              refine wpAnyZ_take (i := 2) (v := .string nm) rfl (by kernel_rfl) (by kernel_rfl) (by kernel_rfl) (by kernel_rfl) (fun _ _ _ h => h) (Or.inl ⟨by rfl, ?_⟩) hS ?_
              · intro w' hSw; obtain ⟨s0, s1⟩ := hSw; go_simp
              try simp only [Act.put]
              refine wpAnyZ_take (i := 4) (v := .pointer (some ⟨wr.heap.size, 1, none⟩)) rfl (by kernel_rfl) (by kernel_rfl) (by kernel_rfl) (by kernel_rfl) (fun _ _ _ h => h) (Or.inl ⟨by rfl, ?_⟩) hS ?_
              · intro w' hSw; obtain ⟨s0, s1⟩ := hSw; go_simp
              try simp only [Act.put]
              refine wpAnyZ_take (i := 5) (v := .slice ah ch.length ph) rfl (by kernel_rfl) (by kernel_rfl) (by kernel_rfl) (by kernel_rfl) (fun _ _ _ h => h) (Or.inl ⟨by rfl, ?_⟩) hS ?_
              · intro w' hSw; obtain ⟨s0, s1⟩ := hSw; go_simp
              try simp only [Act.put]
              refine wpAnyZ_one (i := 3) (by kernel_rfl) rfl ?_
              intro K8 hK8
              rw [if_pos (by rfl)]
              go_simp
              have kd : Kept w3' (w3'.alloc (.cells #[] 3)).drew := ((But.refl _ _ w3').alloc _).drew
              have hSb : (fun w' => w'.cell? ⟨wr.heap.size, 0, none⟩ = some (.string nm) ∧ w'.cell? ⟨wr.heap.size, 1, none⟩ = some (.slice ah ch.length ph)) (w3'.alloc (.cells #[] 3)).drew := ⟨Kept.cell kd m0, Kept.cell kd m1⟩
              refine hK8.out _ _ (fun _ => hSb) ?_
              clear hK8 K8
              try simp only [Act.put]
              refine wpAnyZ_one (i := 6) (by kernel_rfl) rfl ?_
              intro K8 hK8
              refine step_num rfl (.tmp 62) (.tmp 64) rfl (lo := w3'.heap.size) (hi := w3'.heap.size + 1) (by simp [Act.eval]) (NumO.kept (own_empty w3') ((But.refl _ _ _).drew)) (by simp [Act.eval]) (HCH.out.kept kd) rfl (by simp; omega) (by simp) ?_
              intro v6 w6 o6 b6
              simp only [List.nil_append] at o6
              have k6 : Kept w3' w6 := But.onto kd b6 (Nat.le_refl _)
              obtain ⟨a6, p6, hf⟩ := o6.form
              subst hf
              have s6 := k6.size
              have HO6 : Hid (NumO w6 w3'.heap.size w6.heap.size (.slice a6 ch.length p6) ch) := o6
              have hSc : (fun w' => w'.cell? ⟨wr.heap.size, 0, none⟩ = some (.string nm) ∧ w'.cell? ⟨wr.heap.size, 1, none⟩ = some (.slice ah ch.length ph)) w6 := ⟨Kept.cell k6 m0, Kept.cell k6 m1⟩
              have HK6 : Hid (Kept w3' w6) := k6
              refine hK8.out _ _ (fun _ => hSc) ?_
              clear hK8 K8 o6 b6 hS hSb kd k6
              try simp only [Act.put]
              refine wpAnyZ_take (i := 7) (v := .agg #[.string nm, .slice a6 ch.length p6]) rfl (by kernel_rfl) (by kernel_rfl) (by kernel_rfl) (by kernel_rfl) (fun _ _ _ h => h) (Or.inl ⟨by rfl, ?_⟩) hSc ?_
              · intro w' hSw; obtain ⟨s0, s1⟩ := hSw; go_simp
              try simp only [Act.put]
              refine wpAnyZ_one (i := 8) (by kernel_rfl) rfl ?_
              intro K8 hK8
              rw [if_pos (by rfl)]
              go_simp
              have hSd : (fun w' => w'.cell? ⟨wr.heap.size, 0, none⟩ = some (.string nm) ∧ w'.cell? ⟨wr.heap.size, 1, none⟩ = some (.slice ah ch.length ph)) (w6.alloc (.cells #[.string nm, .slice a6 ch.length p6] 85)) := ⟨Kept.cell ((But.refl _ _ w6).alloc _) hSc.1, Kept.cell ((But.refl _ _ w6).alloc _) hSc.2⟩
              refine hK8.out _ _ (fun _ => hSd) ?_
              clear hK8 K8
              try simp only [Act.put]
              refine wpAnyZ_one (i := 9) (by kernel_rfl) rfl ?_
              intro K8 hK8
              refine step_binds rfl (.tmp 59) (.tmp 67) rfl (lo := W2.heap.size) (mid := w3'.heap.size) (by simp [Act.eval]) (OB3.out.kept (HK6.out.alloc _)) (by simp [Act.eval]) nm a6 p6 ch (Loc.new w6 [.string nm, .slice a6 ch.length p6] 85) ((HO6.out.kept ((But.refl _ _ w6).alloc _)).mono (Nat.le_refl _) (by simp)) (by have := K3.out.size; omega) (by simp; omega) (by omega) ?_
              intro v9 w9 o9 q9 b9 _
              have HO9 : Hid (BindsO w9 W2.heap.size w9.heap.size v9 (O0 ++ [(nm, ch)])) := o9
              have HK9 : Hid (Kept W2 w9) := q9 _ ((K3.out.trans HK6.out).alloc _) (Nat.le_refl _)
              have hSe : (fun w' => w'.cell? ⟨wr.heap.size, 0, none⟩ = some (.string nm) ∧ w'.cell? ⟨wr.heap.size, 1, none⟩ = some (.slice ah ch.length ph)) w9 := ⟨But.cell b9 hSd.1 (but_ne HNB.out), But.cell b9 hSd.2 (but_ne HNB.out)⟩
              refine hK8.out _ _ (fun _ => hSe) ?_
              clear hK8 K8 o9 q9 b9 hSc hSd HO6 HK6
              try simp only [Act.put]
              refine wpAnyZ_one (i := 10) (by kernel_rfl) rfl ?_
              intro K8 hK8
              rw [if_pos (by rfl)]
              go_simp
              refine hK8.out _ _ (fun _ => hSe) ?_
              clear hK8 K8
              refine wpAnyZ_done (by kernel_rfl) ?_ _
              try simp only [Act.put]
              clear hSe
              repeat (first | go_values | go_skip | go_guarded | go_step | go_upon)
              refine ⟨⟨k + 1, hlt, by go_num, ?_, ?_, ?_, HK9.out⟩, by simp [intOf]; omega⟩
              · rw [HR.out]
              · rw [HR.out]
              · rw [HR.out]; exact HO9.out
        · subst hpt
          cases q1 : (nm.toList == a.toList) with
          | true =>
            have HR : Hid (rebS l a c (k + 1) = (false, lost, O0)) := by
              show _ = _
              rw [RE.out]
              simp [keepB, q1]
            clear RE
            repeat (first | go_values | go_skip | go_guarded | go_step | go_upon)
            refine ⟨⟨k + 1, hlt, by go_num, ?_, ?_, ?_, K3.out⟩, by simp [intOf]; omega⟩
            · rw [HR.out]
            · rw [HR.out]
            · rw [HR.out]; exact OB3.out.low
          | false =>
            have CC : Hid (Calls Try.prog 57 #[.slice ah ch.length ph, .slice ac c.length pc] w3 fun e w' => e = .returned (.bool (decide (ch = c))) ∧ Kept w3 w') := ssame ch c _ _ w3 HCH.out (hc.kept (K2.trans K3.out)) hsz.2 hm
            by_cases q2 : ch = c
            · have HR : Hid (rebS l a c (k + 1) = (false, nm, O0)) := by
                show _ = _
                rw [RE.out]
                simp [keepB, q1, q2]
              rw [decide_eq_true q2] at CC
              clear RE q2
              repeat (first | (go_at_call 57; refine CC.out.mono ?_; rintro e w6 ⟨rfl, k6⟩; have m0 := Kept.cell k6 m0; dsimp only) | go_values | go_skip | go_guarded | go_step | go_upon)
              refine ⟨⟨k + 1, hlt, by go_num, ?_, ?_, ?_, K3.out.trans k6⟩, by simp [intOf]; omega⟩
              · rw [HR.out]
              · rw [HR.out]
              · rw [HR.out]; exact (OB3.out.kept k6).low
            · have HR : Hid (rebS l a c (k + 1) = (false, lost, O0 ++ [(nm, ch)])) := by
                show _ = _
                rw [RE.out]
                simp [keepB, q1, q2]
              rw [decide_eq_false q2] at CC
              clear RE q2
              repeat (first | (go_at_call 57; refine CC.out.mono ?_; rintro e w3' ⟨rfl, k3⟩; dsimp only) | go_values | go_skip | go_guarded | go_step | go_upon)
              have m0 := Kept.cell k3 m0
              have m1 := Kept.cell k3 m1
              have OB3 : Hid (BindsO w3' W2.heap.size w3.heap.size (.slice ao0 O0.length p0) O0) := OB3.out.kept k3
              have HCH : Hid (NumAt w3' (.slice ah ch.length ph) ch) := HCH.out.kept k3
              have K3 : Hid (Kept W2 w3') := K3.out.trans k3
              have s3' := k3.size
              have OB3 : Hid (BindsO w3' W2.heap.size w3'.heap.size (.slice ao0 O0.length p0) O0) := OB3.out.low
              clear CC k3
              refine wp_region_Z (fun w' => w'.cell? ⟨wr.heap.size, 0, none⟩ = some (.string nm) ∧ w'.cell? ⟨wr.heap.size, 1, none⟩ = some (.slice ah ch.length ph)) 99 (by kernel_rfl) ?_
              have hS : (fun w' => w'.cell? ⟨wr.heap.size, 0, none⟩ = some (.string nm) ∧ w'.cell? ⟨wr.heap.size, 1, none⟩ = some (.slice ah ch.length ph)) w3'.drew := ⟨m0, m1⟩
              refine wpAnyZ_take (i := 0) (v := .slice ao0 O0.length p0) rfl (by kernel_rfl) (by kernel_rfl) (by kernel_rfl) (by kernel_rfl) (fun _ _ _ h => h) (Or.inl ⟨by rfl, ?_⟩) hS ?_
              · intro w' hSw; obtain ⟨s0, s1⟩ := hSw; go_simp
              try simp only [Act.put]
              refine wpAnyZ_take (i := 1) (v := .pointer (some ⟨wr.heap.size, 0, none⟩)) rfl (by kernel_rfl) (by kernel_rfl) (by kernel_rfl) (by kernel_rfl) (fun _ _ _ h => h) (Or.inl ⟨by rfl, ?_⟩) hS ?_
              · intro w' hSw; obtain ⟨s0, s1⟩ := hSw; go_simp
              try simp only [Act.put]
              refine wpAnyZ_take (i := 2) (v := .string nm) rfl (by kernel_rfl) (by kernel_rfl) (by kernel_rfl) (by kernel_rfl) (fun _ _ _ h => h) (Or.inl ⟨by rfl, ?_⟩) hS ?_
              · intro w' hSw; obtain ⟨s0, s1⟩ := hSw; go_simp
              try simp only [Act.put]
              refine wpAnyZ_take (i := 4) (v := .pointer (some ⟨wr.heap.size, 1, none⟩)) rfl (by kernel_rfl) (by kernel_rfl) (by kernel_rfl) (by kernel_rfl) (fun _ _ _ h => h) (Or.inl ⟨by rfl, ?_⟩) hS ?_
              · intro w' hSw; obtain ⟨s0, s1⟩ := hSw; go_simp
              try simp only [Act.put]
              refine wpAnyZ_take (i := 5) (v := .slice ah ch.length ph) rfl (by kernel_rfl) (by kernel_rfl) (by kernel_rfl) (by kernel_rfl) (fun _ _ _ h => h) (Or.inl ⟨by rfl, ?_⟩) hS ?_
              · intro w' hSw; obtain ⟨s0, s1⟩ := hSw; go_simp
              try simp only [Act.put]
              refine wpAnyZ_one (i := 3) (by kernel_rfl) rfl ?_
              intro K8 hK8
              rw [if_pos (by rfl)]
              go_simp
              have kd : Kept w3' (w3'.alloc (.cells #[] 3)).drew := ((But.refl _ _ w3').alloc _).drew
              have hSb : (fun w' => w'.cell? ⟨wr.heap.size, 0, none⟩ = some (.string nm) ∧ w'.cell? ⟨wr.heap.size, 1, none⟩ = some (.slice ah ch.length ph)) (w3'.alloc (.cells #[] 3)).drew := ⟨Kept.cell kd m0, Kept.cell kd m1⟩
              refine hK8.out _ _ (fun _ => hSb) ?_
              clear hK8 K8
              try simp only [Act.put]
              refine wpAnyZ_one (i := 6) (by kernel_rfl) rfl ?_
              intro K8 hK8
              refine step_num rfl (.tmp 62) (.tmp 64) rfl (lo := w3'.heap.size) (hi := w3'.heap.size + 1) (by simp [Act.eval]) (NumO.kept (own_empty w3') ((But.refl _ _ _).drew)) (by simp [Act.eval]) (HCH.out.kept kd) rfl (by simp; omega) (by simp) ?_
              intro v6 w6 o6 b6
              simp only [List.nil_append] at o6
              have k6 : Kept w3' w6 := But.onto kd b6 (Nat.le_refl _)
              obtain ⟨a6, p6, hf⟩ := o6.form
              subst hf
              have s6 := k6.size
              have HO6 : Hid (NumO w6 w3'.heap.size w6.heap.size (.slice a6 ch.length p6) ch) := o6
              have hSc : (fun w' => w'.cell? ⟨wr.heap.size, 0, none⟩ = some (.string nm) ∧ w'.cell? ⟨wr.heap.size, 1, none⟩ = some (.slice ah ch.length ph)) w6 := ⟨Kept.cell k6 m0, Kept.cell k6 m1⟩
              have HK6 : Hid (Kept w3' w6) := k6
              refine hK8.out _ _ (fun _ => hSc) ?_
              clear hK8 K8 o6 b6 hS hSb kd k6
              try simp only [Act.put]
              refine wpAnyZ_take (i := 7) (v := .agg #[.string nm, .slice a6 ch.length p6]) rfl (by kernel_rfl) (by kernel_rfl) (by kernel_rfl) (by kernel_rfl) (fun _ _ _ h => h) (Or.inl ⟨by rfl, ?_⟩) hSc ?_
              · intro w' hSw; obtain ⟨s0, s1⟩ := hSw; go_simp
              try simp only [Act.put]
              refine wpAnyZ_one (i := 8) (by kernel_rfl) rfl ?_
              intro K8 hK8
              rw [if_pos (by rfl)]
              go_simp
              have hSd : (fun w' => w'.cell? ⟨wr.heap.size, 0, none⟩ = some (.string nm) ∧ w'.cell? ⟨wr.heap.size, 1, none⟩ = some (.slice ah ch.length ph)) (w6.alloc (.cells #[.string nm, .slice a6 ch.length p6] 85)) := ⟨Kept.cell ((But.refl _ _ w6).alloc _) hSc.1, Kept.cell ((But.refl _ _ w6).alloc _) hSc.2⟩
              refine hK8.out _ _ (fun _ => hSd) ?_
              clear hK8 K8
              try simp only [Act.put]
              refine wpAnyZ_one (i := 9) (by kernel_rfl) rfl ?_
              intro K8 hK8
              refine step_binds rfl (.tmp 59) (.tmp 67) rfl (lo := W2.heap.size) (mid := w3'.heap.size) (by simp [Act.eval]) (OB3.out.kept (HK6.out.alloc _)) (by simp [Act.eval]) nm a6 p6 ch (Loc.new w6 [.string nm, .slice a6 ch.length p6] 85) ((HO6.out.kept ((But.refl _ _ w6).alloc _)).mono (Nat.le_refl _) (by simp)) (by have := K3.out.size; omega) (by simp; omega) (by omega) ?_
              intro v9 w9 o9 q9 b9 _
              have HO9 : Hid (BindsO w9 W2.heap.size w9.heap.size v9 (O0 ++ [(nm, ch)])) := o9
              have HK9 : Hid (Kept W2 w9) := q9 _ ((K3.out.trans HK6.out).alloc _) (Nat.le_refl _)
              have hSe : (fun w' => w'.cell? ⟨wr.heap.size, 0, none⟩ = some (.string nm) ∧ w'.cell? ⟨wr.heap.size, 1, none⟩ = some (.slice ah ch.length ph)) w9 := ⟨But.cell b9 hSd.1 (but_ne HNB.out), But.cell b9 hSd.2 (but_ne HNB.out)⟩
              refine hK8.out _ _ (fun _ => hSe) ?_
              clear hK8 K8 o9 q9 b9 hSc hSd HO6 HK6
              try simp only [Act.put]
              refine wpAnyZ_one (i := 10) (by kernel_rfl) rfl ?_
              intro K8 hK8
              rw [if_pos (by rfl)]
              go_simp
              refine hK8.out _ _ (fun _ => hSe) ?_
              clear hK8 K8
              refine wpAnyZ_done (by kernel_rfl) ?_ _
              try simp only [Act.put]
              clear hSe
              repeat (first | go_values | go_skip | go_guarded | go_step | go_upon)
              refine ⟨⟨k + 1, hlt, by go_num, ?_, ?_, ?_, HK9.out⟩, by simp [intOf]; omega⟩
              · rw [HR.out]
              · rw [HR.out]
              · rw [HR.out]; exact HO9.out
    · have hke : k = l.length := by omega
      subst hke
      have HRM := rebR_mem HRis.out a c
      have HRL := rebR_len HRis.out a c
      have HEACH : Hid (∀ d ∈ rebR l a c, d.1.size ≤ 1048576 ∧ d.2.length ≤ 1048576) := fun d hd => by
        rcases (HRM d).1 hd with rfl | ⟨h, _⟩
        · exact ⟨ha, hm⟩
        · exact hcs.out d h
      have HRR : Hid (rebR l a c = if (rebS l a c l.length).1 then (rebS l a c l.length).2.2 else (rebS l a c l.length).2.2 ++ [(a, c)]) := rfl
      obtain ⟨S0, hS0⟩ : ∃ s, rebS l a c l.length = s := ⟨_, rfl⟩
      rw [hS0] at ob hol HRR YES ⊢
      obtain ⟨pt, lost, O⟩ := S0
      dsimp only at ob hol HRR YES ⊢
      obtain ⟨ao0, p0, hf⟩ := ob.form
      subst hf
      have OB : Hid (BindsO wr W2.heap.size wr.heap.size (.slice ao0 O.length p0) O) := ob
      have K3 : Hid (Kept W2 wr) := hkp
      have sr := hkp.size
      obtain ⟨R, hR⟩ : ∃ R, rebR l a c = R := ⟨_, rfl⟩
      rw [hR] at HRL HEACH HRR YES NO
      clear ob hkp HRM hR hS0 hlt hk hv
      cases pt with
      | true =>
        have hRO : R = O := HRR.out
        subst hRO
        have HOF : Hid (BindsO wr W2.heap.size wr.heap.size (.slice ao0 R.length p0) R) := OB.out
        have HKF : Hid (Kept W2 wr) := K3.out
        clear OB K3 HRR
        have HCG : Hid (Calls Try.prog 14 #[.slice ao0 R.length p0] wr fun e w' => e = .returned (.bool (dec (BindsP R))) ∧ Kept wr w') := sgbindsW R ao0 p0 wr HOF.out.at (cap_of HOF.out) (by omega) HEACH.out
        rcases (Classical.em (BindsP R)).symm with hg | hg
        · rw [dec_no hg] at HCG
          have hRR := NO.out hg
          subst hRR
          clear hg NO YES
          repeat (first | (go_at_call 14; refine HCG.out.mono ?_; rintro e w8 ⟨rfl, k8⟩; dsimp only) | go_values | go_skip | go_guarded | go_step | go_upon)
          go_returns
          exact ⟨_, rfl, nil_binds _ _ _, K2.trans (HKF.out.trans k8)⟩
        · rw [dec_yes hg] at HCG
          have hRR := YES.out hg
          subst hRR
          clear hg NO YES
          repeat (first | (go_at_call 14; refine HCG.out.mono ?_; rintro e w8 ⟨rfl, k8⟩; dsimp only) | go_values | go_skip | go_guarded | go_step | go_upon)
          go_returns
          exact ⟨_, rfl, ((HOF.out.kept k8).low).mono (by omega) (Nat.le_refl _), K2.trans (HKF.out.trans k8)⟩
      | false =>
        have hRO : O ++ [(a, c)] = R := HRR.out.symm
        repeat (first | (at_builtin; refine forgetL (fun w' => w' = _) rfl ?_) | go_values | go_skip | go_guarded | go_step | go_upon)
        intro W7 hW7
        rw [hW7]
        clear hW7 W7
        refine app_num rfl _ _ rfl (lo := wr.heap.size) (hi := wr.heap.size + 1) rfl (own_empty wr) rfl (hc.kept (K2.trans (K3.out.alloc _))) rfl (by simp; omega) (by simp) ?_
        intro v4 w4 o4 b4
        simp only [List.nil_append] at o4
        have k4 : Kept wr w4 := But.onto ((But.refl _ _ wr).alloc _) b4 (Nat.le_refl _)
        obtain ⟨a4, p4, hf⟩ := o4.form
        subst hf
        have s4 := k4.size
        have HO4 : Hid (NumO w4 wr.heap.size w4.heap.size (.slice a4 c.length p4) c) := o4
        have HK4 : Hid (Kept wr w4) := k4
        clear o4 b4 k4
        repeat (first | (at_builtin; refine forgetL (fun w' => w' = _) rfl ?_) | go_values | go_skip | go_guarded | go_step | go_upon)
        intro W7 hW7
        rw [hW7]
        clear hW7 W7
        refine appw_binds rfl _ _ rfl (lo := W2.heap.size) (mid := wr.heap.size) rfl (OB.out.kept (HK4.out.alloc _)) rfl a a4 p4 c (Loc.new w4 [.string a, .slice a4 c.length p4] 85) ((HO4.out.kept ((But.refl _ _ w4).alloc _)).mono (Nat.le_refl _) (by simp)) (by have := (K3.out).size; omega) (by simp; omega) (by have := rebS_len l a c l.length; omega) ?_
        intro v5 w5 o5 q5 b5 l5
        have k5 : Kept W2 w5 := q5 _ ((K3.out.trans HK4.out).alloc _) (Nat.le_refl _)
        obtain ⟨O5, hO5⟩ : ∃ Q9, O ++ [(a, c)] = Q9 := ⟨_, rfl⟩
        rw [hO5] at o5
        obtain ⟨a5, p5, hf⟩ := o5.form
        subst hf
        have s5 := k5.size
        have HO5 : Hid (BindsO w5 W2.heap.size w5.heap.size (.slice a5 O5.length p5) O5) := o5
        have HK5 : Hid (Kept W2 w5) := k5
        clear o5 q5 k5 HO4 HK4 b5 l5
        have e5 : O5 = R := hO5.symm.trans hRO
        subst e5
        have HOF : Hid (BindsO w5 W2.heap.size w5.heap.size (.slice a5 O5.length p5) O5) := HO5.out
        have HKF : Hid (Kept W2 w5) := HK5.out
        clear OB K3 HRR hO5 hRO HO5 HK5
        have HCG : Hid (Calls Try.prog 14 #[.slice a5 O5.length p5] w5 fun e w' => e = .returned (.bool (dec (BindsP O5))) ∧ Kept w5 w') := sgbindsW O5 a5 p5 w5 HOF.out.at (cap_of HOF.out) (by omega) HEACH.out
        rcases (Classical.em (BindsP O5)).symm with hg | hg
        · rw [dec_no hg] at HCG
          have hRR := NO.out hg
          subst hRR
          clear hg NO YES
          repeat (first | (go_at_call 14; refine HCG.out.mono ?_; rintro e w8 ⟨rfl, k8⟩; dsimp only) | go_values | go_skip | go_guarded | go_step | go_upon)
          go_returns
          exact ⟨_, rfl, nil_binds _ _ _, K2.trans (HKF.out.trans k8)⟩
        · rw [dec_yes hg] at HCG
          have hRR := YES.out hg
          subst hRR
          clear hg NO YES
          repeat (first | (go_at_call 14; refine HCG.out.mono ?_; rintro e w8 ⟨rfl, k8⟩; dsimp only) | go_values | go_skip | go_guarded | go_step | go_upon)
          go_returns
          exact ⟨_, rfl, ((HOF.out.kept k8).low).mono (by omega) (Nat.le_refl _), K2.trans (HKF.out.trans k8)⟩

end Go.Proofs.Ythkfpbknfjapaaa
