/-
  Bodies kept off one another, as the program does it.
-/
import Derived.Test.YthpjjpgahmkpdaaMoveB10
import Derived.Test.YthpjjpgahmkpdaaRows10
namespace Go.Proofs.Ythpjjpgahmkpdaa
open Go.ChangeShapes Go.WideShapes Go.ChangeAt Go.RowKit

set_option maxRecDepth 100000
set_option linter.unusedVariables false
set_option linter.unusedSimpArgs false

theorem solid_form {w : World} {lo hi : Nat} {ao : Option Addr} {n cap : Nat} {ps : List BodyD} (h : SolidO w lo hi (.slice ao n cap) ps) (hp : 0 < ps.length) : ∃ g, ao = some ⟨g, 0, none⟩ ∧ lo ≤ g ∧ g < hi ∧ n = ps.length ∧ ps.length ≤ cap := by
  have h2 := h.2
  rcases h.1.2 with ⟨hv, hx⟩ | ⟨g, c, cur, hv, hb, _, hc, _⟩
  · omega
  · cases hv
    exact ⟨g, rfl, hb, h2 g rfl, rfl, hc⟩
theorem mix_one {qs R : List BodyD} (hR : rightL qs = R) : mix R qs 1 = qs := by
  subst hR
  cases qs with
  | nil => rfl
  | cons b bs => simp [mix, rightL]
set_option maxHeartbeats 8000000 in
theorem layRight (qs : List BodyD) (lo hi : Nat) (V : Value) (w : World) (ho : SolidO w lo hi V qs) (hl : qs.length ≤ 20) (hf : Fit (-2000000000) 2000000000 qs) :
    Calls Try.prog 63 #[V] w fun e w' => e = .returned (.tuple #[]) ∧ SolidO w' lo hi V (rightL qs) ∧ But lo hi w w' := by
  obtain ⟨ao, cap, hfm⟩ := ho.form
  subst hfm
  obtain ⟨R, hRd⟩ : ∃ R, rightL qs = R := ⟨_, rfl⟩
  rw [hRd]
  have HRD : Hid (rightL qs = R) := hRd
  have HRL : Hid (R.length = qs.length) := (show R.length = qs.length by rw [← hRd, rightL_len])
  have HF : Hid (Fit (-2000000000) 2000000000 qs) := hf
  have HFR : Hid (Fit (-2000000000) 2000040000 R) := (show Fit _ _ R by rw [← hRd]; exact fit_right hf hl)
  have HO0 : Hid (SolidO w lo hi (.slice ao qs.length cap) (mix R qs 1)) := (show SolidO _ _ _ _ _ by rw [mix_one hRd]; exact ho)
  clear ho hf hRd
  go_enter Try.func63, Try.ntmps63
  repeat (first | go_values | go_skip | go_guarded | go_step | go_upon)
  go_loopw [2] (fun i wr => ∃ (k : Nat), 1 ≤ k ∧ (k ≤ qs.length ∨ k = 1) ∧ i = .int .i64 (k : Int) ∧ SolidO wr lo hi (.slice ao qs.length cap) (mix R qs k) ∧ But lo hi w wr) (fun i _ => qs.length - (intOf i).toNat)
  case atStart => exact ⟨1, Nat.le_refl _, Or.inr rfl, rfl, HO0.out, But.refl _ _ _⟩
  case round =>
    obtain ⟨k, hk1, hk2, rfl, ho, hkp⟩ := hrel
    have HO : Hid (SolidO wr lo hi (.slice ao qs.length cap) (mix R qs k)) := ho
    have HK : Hid (But lo hi w wr) := hkp
    clear ho hkp HO0
    by_cases hlt : k < qs.length
    · obtain ⟨g, rfl, hg1, hg2, hx, hcap⟩ := solid_form HO.out (by rw [mix_len _ _ _ HRL.out (by omega)]; omega)
      obtain ⟨j, hj⟩ : ∃ j, k = j + 1 := ⟨k - 1, by omega⟩
      obtain ⟨⟨x, p, m, r⟩, hb⟩ : ∃ z, qs[k]? = some z := ⟨_, List.getElem?_eq_getElem hlt⟩
      obtain ⟨⟨y, q, l, s⟩, hc⟩ : ∃ z, R[j]? = some z := ⟨_, List.getElem?_eq_getElem (by rw [HRL.out]; omega)⟩
      have hmb : (mix R qs k)[k]? = some (x, p, m, r) := by rw [mix_get _ _ _ HRL.out hlt]; exact hb
      have hmc : (mix R qs k)[j]? = some (y, q, l, s) := by rw [mix_lo _ _ (by omega) (by rw [HRL.out]; omega)]; exact hc
      have hml : qs.length = (mix R qs k).length := (mix_len _ _ _ HRL.out (by omega)).symm
      have hRk : R[k]? = some (offL (y, q, l, s) (x, p, m, r)) := by
        rw [← HRD.out, hj]
        exact rightL_get (by rw [← hj]; exact hb) (by rw [HRD.out]; exact hc)
      have HST : Hid (mix R qs (k + 1) = (mix R qs k).set k (offL (y, q, l, s) (x, p, m, r))) := (mix_set _ _ k _ HRL.out hRk).symm
      have HM : Hid (qs.length = (mix R qs k).length ∧ (mix R qs k)[k]? = some (x, p, m, r) ∧ (mix R qs k)[j]? = some (y, q, l, s)) := ⟨hml, hmb, hmc⟩
      obtain ⟨a0, a1, a2, a3, zf⟩ := HO.out.cells hmb
      obtain ⟨b0, b1, b2, b3, _⟩ := HO.out.cells hmc
      have hbb := HF.out k _ hb
      have hcb := HFR.out j _ hc
      dsimp only at a0 a1 a2 a3 b0 b1 b2 b3 hbb hcb
      have hg := cell_lt a0
      have ej : IntKind.i64.wrap ((k : Int) - 1) = (j : Int) := by rw [IntWalk.i64_in _ (by omega)]; omega
      have zj1 : (0 : Int) ≤ (j : Int) := by omega
      have zj2 : (j : Int) < (qs.length : Int) := by omega
      have HJ : Hid (k = j + 1) := hj
      clear hb hc hmb hmc hml hRk zf hx hj
      by_cases hm : m = 0
      · have dm : (m == 0) = true := by simpa using hm
        have hof : offL (y, q, l, s) (x, p, m, r) = (x, p, m, r) := by unfold offL; rw [if_pos hm]
        rw [hof, set_same HM.out.2.1] at HST
        clear hm hof
        repeat (first | (go_at_call 89; refine (iwall _ _ _ _).mono ?_; rw [dm]; rintro e w3 ⟨rfl, k3⟩; have HO3 : Hid (SolidO w3 lo hi (.slice (some ⟨g, 0, none⟩) qs.length cap) (mix R qs k)) := HO.out.kept k3; have HK3 : Hid (But lo hi w w3) := HK.out.transK k3; clear k3; dsimp only) | go_values | go_skip | go_guarded | go_step | go_upon)
        exact ⟨⟨k + 1, by omega, Or.inl (by omega), by go_num, by rw [HST.out]; exact HO3.out, HK3.out⟩, by simp [intOf]; omega⟩
      · have dm : (m == 0) = false := by simpa using hm
        have hof : offL (y, q, l, s) (x, p, m, r) = (max x (y + s + r), p, m, r) := by unfold offL; rw [if_neg hm]
        rw [hof] at HST
        clear hm hof
        have IR : Hid (∀ W, Calls Try.prog 87 #[.agg #[.int .i64 y, .int .i64 q, .int .i64 l, .int .i64 s]] W fun e w' => e = .returned (.int .i64 (y + s)) ∧ Kept W w') := fun W => iright y q l s W (by omega) (by omega)
        have i1 : IntKind.i64.wrap (y + s + r) = y + s + r := IntWalk.i64_in _ (by omega)
        repeat (first | go_values | go_skip | go_guarded | go_step | go_upon)
        go_at_call 89
        refine (iwall _ _ _ _).mono ?_
        rw [dm]
        rintro e w3 ⟨rfl, k3⟩
        have HO3 : Hid (SolidO w3 lo hi (.slice (some ⟨g, 0, none⟩) qs.length cap) (mix R qs k)) := HO.out.kept k3
        have HK3 : Hid (But lo hi w w3) := HK.out.transK k3
        have a0 := Kept.cell k3 a0; have b0 := Kept.cell k3 b0; have a1 := Kept.cell k3 a1; have b1 := Kept.cell k3 b1; have a2 := Kept.cell k3 a2; have b2 := Kept.cell k3 b2; have a3 := Kept.cell k3 a3; have b3 := Kept.cell k3 b3
        clear k3
        dsimp only
        iterate 8 (first | go_values | go_skip | go_guarded | go_step | go_upon)
        have hg := cell_lt a0
        refine wp_region_ksq 21 4 (by kernel_rfl) (by kernel_rfl) (by kernel_rfl) (by decide) ?_
        simp only [List.take_succ_cons, List.take_zero, List.drop_succ_cons, List.drop_zero]
        have hcc := @KW.cell_eq
        repeat (go_big_quiet_step (first | (go_at_call 87; exact kw_call (IR.out _))))
        refine wpQuiet_nil ?_
        rintro w5 ⟨⟨w6, k5⟩, h5⟩
        change w5 = w6 at h5
        subst h5
        clear hcc
        have O5 := HO3.out.kept k5
        obtain ⟨c0, c1, c2, c3, zf⟩ := O5.cells HM.out.2.1
        have zf0 := zf (k * 4)
        have HO5 : Hid (SolidO w5 lo hi (.slice (some ⟨g, 0, none⟩) qs.length cap) (mix R qs k)) := O5
        have HK5 : Hid (But lo hi w w5) := HK3.out.transK k5
        clear O5 k5 zf a0 b0 a1 b1 a2 b2 a3 b3
        repeat (first | go_values | go_skip | go_guarded | go_step | go_upon)
        refine ⟨⟨k + 1, by omega, Or.inl (by omega), by go_num, ?_, HK5.out.trans ((But.refl _ _ _).setCell (by simpa using hg1) (by simpa using hg2) _)⟩, by simp [intOf]; omega⟩
        rw [HST.out]
        have := HO5.out.set0 HM.out.1 HM.out.2.1 (max x (y + s + r))
        have em : max x (y + s + r) = (if x < y + s + r then y + s + r else x) := by split <;> omega
        rw [em] at this ⊢
        exact this
    · have HOE : Hid (SolidO wr lo hi (.slice ao qs.length cap) R) := (show SolidO _ _ _ _ _ by
        by_cases h0 : qs.length = 0
        · have e1 : R = [] := List.eq_nil_of_length_eq_zero (by rw [HRL.out, h0])
          have e2 : qs = [] := List.eq_nil_of_length_eq_zero h0
          have := HO.out
          rw [e1, e2] at this
          rw [e1, e2]
          simpa [mix] using this
        · rw [← mix_all R qs k (by rw [HRL.out]; omega) (by omega)]
          exact HO.out)
      have dk : decide ((k : Int) < (qs.length : Int)) = false := by simp; omega
      clear HO
      repeat (first | go_values | go_skip | go_guarded | go_step | go_upon)
      refine bodyPost_end (v := .tuple #[]) (by simp [results, Try.results63, go_sem]) rfl ?_
      exact ⟨rfl, HOE.out, HK.out⟩

set_option maxHeartbeats 8000000 in
theorem layLeft (qs : List BodyD) (lo hi : Nat) (V : Value) (w : World) (ho : SolidO w lo hi V qs) (hl : qs.length ≤ 20) (hf : Fit (-2000000000) 2000040000 qs) :
    Calls Try.prog 64 #[V] w fun e w' => e = .returned (.tuple #[]) ∧ SolidO w' lo hi V (leftL qs) ∧ But lo hi w w' := by
  obtain ⟨ao, cap, hfm⟩ := ho.form
  subst hfm
  have HLL : Hid (qs.length = (leftL qs).length) := (leftL_len qs).symm
  have HF : Hid (Fit (-2000000000) 2000040000 qs) := hf
  have HFL : Hid (Fit (-2000040000) 2000040000 (leftL qs)) := fit_left hf hl
  have HO0 : Hid (SolidO w lo hi (.slice ao qs.length cap) qs) := ho
  clear ho hf
  go_enter Try.func64, Try.ntmps64
  repeat (first | go_values | go_skip | go_guarded | go_step | go_upon)
  go_loopw [2] (fun i wr => ∃ z : Int, i = .int .i64 z ∧ ((∃ k : Nat, k + 1 ≤ qs.length ∧ z = (k : Int) - 1 ∧ SolidO wr lo hi (.slice ao qs.length cap) (mix qs (leftL qs) k) ∧ But lo hi w wr) ∨ (qs.length = 0 ∧ z = -2 ∧ SolidO wr lo hi (.slice ao qs.length cap) (leftL qs) ∧ But lo hi w wr))) (fun i _ => ((intOf i) + 2).toNat)
  case atStart =>
    refine ⟨_, rfl, ?_⟩
    by_cases h00 : qs.length = 0
    · have hRn : qs = [] := List.eq_nil_of_length_eq_zero h00
      right
      refine ⟨h00, by simp [h00], ?_, But.refl _ _ _⟩
      have := HO0.out
      rw [hRn] at this ⊢
      exact this
    · left
      obtain ⟨j, hj⟩ : ∃ j, qs.length = j + 1 := ⟨qs.length - 1, by omega⟩
      refine ⟨j, by omega, by omega, ?_, But.refl _ _ _⟩
      obtain ⟨c, hc⟩ : ∃ z, qs[j]? = some z := ⟨_, List.getElem?_eq_getElem (by omega)⟩
      have hlc : (leftL qs)[j]? = some c := by rw [leftL_last (by omega)]; exact hc
      rw [← mix_down qs (leftL qs) j c HLL.out hlc, mix_all _ _ _ hj (by rw [leftL_len, hj]), set_same hc]
      exact HO0.out
  case round =>
    obtain ⟨z, rfl, hz⟩ := hrel
    rcases hz with ⟨k, hk1, hzk, ho, hkp⟩ | ⟨h00, hz2, ho, hkp⟩
    · have HO : Hid (SolidO wr lo hi (.slice ao qs.length cap) (mix qs (leftL qs) k)) := ho
      have HK : Hid (But lo hi w wr) := hkp
      clear ho hkp HO0
      by_cases hk0 : 0 < k
      · obtain ⟨g, rfl, hg1, hg2, hx, hcap⟩ := solid_form HO.out (by rw [mix_len _ _ _ HLL.out (by rw [leftL_len]; omega), leftL_len]; omega)
        obtain ⟨j, hj⟩ : ∃ j, k = j + 1 := ⟨k - 1, by omega⟩
        obtain ⟨⟨x, p, m, r⟩, hb⟩ : ∃ z, qs[j]? = some z := ⟨_, List.getElem?_eq_getElem (by omega)⟩
        obtain ⟨⟨y, q, l, s⟩, hc⟩ : ∃ z, (leftL qs)[k]? = some z := ⟨_, List.getElem?_eq_getElem (by rw [leftL_len]; omega)⟩
        have hbb := HF.out j _ hb
        have hcb := HFL.out k _ hc
        dsimp only at hbb hcb
        have hmb : (mix qs (leftL qs) k)[j]? = some (x, p, m, r) := by rw [mix_lo _ _ (by omega) (by omega)]; exact hb
        have hmc : (mix qs (leftL qs) k)[k]? = some (y, q, l, s) := by rw [mix_hi _ _ (Nat.le_refl _) HLL.out (by omega)]; exact hc
        have hml : qs.length = (mix qs (leftL qs) k).length := by rw [mix_len _ _ _ HLL.out (by rw [leftL_len]; omega), leftL_len]
        obtain ⟨a0, a1, a2, a3, zf⟩ := HO.out.cells hmb
        obtain ⟨b0, b1, b2, b3, _⟩ := HO.out.cells hmc
        dsimp only at a0 a1 a2 a3 b0 b1 b2 b3
        have HLj : Hid ((leftL qs)[j]? = some (offR (y, q, l, s) (x, p, m, r))) := leftL_get hb (by rw [← hj]; exact hc)
        have HM : Hid (qs.length = (mix qs (leftL qs) k).length ∧ (mix qs (leftL qs) k)[j]? = some (x, p, m, r)) := ⟨hml, hmb⟩
        have HDN : Hid (mix qs (leftL qs) j = (mix qs (leftL qs) k).set j (offR (y, q, l, s) (x, p, m, r))) := (show _ = _ by rw [hj]; exact (mix_down qs (leftL qs) j _ HLL.out HLj.out).symm)
        have hg := cell_lt a0
        have ez : z = (j : Int) := by omega
        subst ez
        have dz : decide ((0 : Int) ≤ (j : Int)) = true := by simp
        have ek : IntKind.i64.wrap ((j : Int) + 1) = (k : Int) := by rw [IntWalk.i64_in _ (by omega)]; omega
        have zk1 : (0 : Int) ≤ (k : Int) := by omega
        have zk2 : (k : Int) < (qs.length : Int) := by omega
        have zj2 : (j : Int) < (qs.length : Int) := by omega
        have s3 : IntKind.i64.wrap ((j : Int) - 1) = (j : Int) - 1 := IntWalk.i64_in _ (by omega)
        have HJ : Hid (k = j + 1) := hj
        clear hb hc hmb hmc hml zf hx hj hzk
        by_cases hm : m = 0
        · have dm : (m == 0) = true := by simpa using hm
          have hof : offR (y, q, l, s) (x, p, m, r) = (x, p, m, r) := by unfold offR; rw [if_pos hm]
          rw [hof, set_same HM.out.2] at HDN
          clear hm hof
          repeat (first | (go_at_call 89; refine (iwall _ _ _ _).mono ?_; rw [dm]; rintro e w3 ⟨rfl, k3⟩; have HO3 : Hid (SolidO w3 lo hi (.slice (some ⟨g, 0, none⟩) qs.length cap) (mix qs (leftL qs) k)) := HO.out.kept k3; have HK3 : Hid (But lo hi w w3) := HK.out.transK k3; clear k3; dsimp only) | go_values | go_skip | go_guarded | go_step | go_upon)
          exact ⟨⟨_, rfl, Or.inl ⟨j, by have := HJ.out; omega, rfl, by rw [HDN.out]; exact HO3.out, HK3.out⟩⟩, by have := HJ.out; simp [intOf]; omega⟩
        · have dm : (m == 0) = false := by simpa using hm
          have hof : offR (y, q, l, s) (x, p, m, r) = (min x (y - s - r), p, m, r) := by unfold offR; rw [if_neg hm]
          rw [hof] at HDN
          clear hm hof
          have IR : Hid (∀ W, Calls Try.prog 88 #[.agg #[.int .i64 y, .int .i64 q, .int .i64 l, .int .i64 s]] W fun e w' => e = .returned (.int .i64 (y - s)) ∧ Kept W w') := fun W => ileft y q l s W (by omega) (by omega)
          have i1 : IntKind.i64.wrap (y - s - r) = y - s - r := IntWalk.i64_in _ (by omega)
          repeat (first | go_values | go_skip | go_guarded | go_step | go_upon)
          go_at_call 89
          refine (iwall _ _ _ _).mono ?_
          rw [dm]
          rintro e w3 ⟨rfl, k3⟩
          have HO3 : Hid (SolidO w3 lo hi (.slice (some ⟨g, 0, none⟩) qs.length cap) (mix qs (leftL qs) k)) := HO.out.kept k3
          have HK3 : Hid (But lo hi w w3) := HK.out.transK k3
          have a0 := Kept.cell k3 a0; have b0 := Kept.cell k3 b0; have a1 := Kept.cell k3 a1; have b1 := Kept.cell k3 b1; have a2 := Kept.cell k3 a2; have b2 := Kept.cell k3 b2; have a3 := Kept.cell k3 a3; have b3 := Kept.cell k3 b3
          clear k3
          dsimp only
          iterate 8 (first | go_values | go_skip | go_guarded | go_step | go_upon)
          have hg := cell_lt a0
          refine wp_region_ksq 21 4 (by kernel_rfl) (by kernel_rfl) (by kernel_rfl) (by decide) ?_
          simp only [List.take_succ_cons, List.take_zero, List.drop_succ_cons, List.drop_zero]
          have hcc := @KW.cell_eq
          repeat (go_big_quiet_step (first | (go_at_call 88; exact kw_call (IR.out _))))
          refine wpQuiet_nil ?_
          rintro w5 ⟨⟨w6, k5⟩, h5⟩
          change w5 = w6 at h5
          subst h5
          clear hcc
          have O5 := HO3.out.kept k5
          obtain ⟨c0, c1, c2, c3, zf⟩ := O5.cells HM.out.2
          have zf0 := zf (j * 4)
          have HO5 : Hid (SolidO w5 lo hi (.slice (some ⟨g, 0, none⟩) qs.length cap) (mix qs (leftL qs) k)) := O5
          have HK5 : Hid (But lo hi w w5) := HK3.out.transK k5
          clear O5 k5 zf a0 b0 a1 b1 a2 b2 a3 b3
          repeat (first | go_values | go_skip | go_guarded | go_step | go_upon)
          refine ⟨⟨_, rfl, Or.inl ⟨j, by have := HJ.out; omega, rfl, ?_, HK5.out.trans ((But.refl _ _ _).setCell (by simpa using hg1) (by simpa using hg2) _)⟩⟩, by have := HJ.out; simp [intOf]; omega⟩
          rw [HDN.out]
          have := HO5.out.set0 HM.out.1 HM.out.2 (min x (y - s - r))
          have em : min x (y - s - r) = (if y - s - r < x then y - s - r else x) := by split <;> omega
          rw [em] at this ⊢
          exact this
      · have hke0 : k = 0 := by omega
        have HOE : Hid (SolidO wr lo hi (.slice ao qs.length cap) (leftL qs)) := (show SolidO _ _ _ _ _ by rw [← mix_zero qs (leftL qs), ← hke0]; exact HO.out)
        have dk : decide ((0 : Int) ≤ z) = false := by simp; omega
        clear HO hzk hke0
        repeat (first | go_values | go_skip | go_guarded | go_step | go_upon)
        refine bodyPost_end (v := .tuple #[]) (by simp [results, Try.results64, go_sem]) rfl ?_
        exact ⟨rfl, HOE.out, HK.out⟩
    · have HOE : Hid (SolidO wr lo hi (.slice ao qs.length cap) (leftL qs)) := ho
      have HK : Hid (But lo hi w wr) := hkp
      have dk : decide ((0 : Int) ≤ z) = false := by simp; omega
      clear ho hkp HO0 h00 hz2
      repeat (first | go_values | go_skip | go_guarded | go_step | go_upon)
      refine bodyPost_end (v := .tuple #[]) (by simp [results, Try.results64, go_sem]) rfl ?_
      exact ⟨rfl, HOE.out, HK.out⟩

end Go.Proofs.Ythpjjpgahmkpdaa
