/-
  A round of pushes, as the program does it.
-/
import Derived.Test.YthpjjpgahmkpdaaIPair10
namespace Go.Proofs.Ythpjjpgahmkpdaa
open Go.ChangeShapes Go.WideShapes Go.ChangeAt Go.RowKit

set_option maxRecDepth 100000
set_option linter.unusedVariables false
set_option linter.unusedSimpArgs false

noncomputable def RoundR (ps : List BodyD) (bo : Int) (lo hi : Nat) (V : Value) (w : World) (e : Ending) (w' : World) : Prop :=
  (match roundO ps bo (ps.length - 1) with
    | some qs => e = .returned (.bool true) ∧ SolidO w' lo hi V qs
    | none => e = .returned (.bool false)) ∧ But lo hi w w'
theorem roundR_some {ps qs : List BodyD} {bo : Int} {lo hi : Nat} {V : Value} {w w' : World} {e : Ending} (h : roundO ps bo (ps.length - 1) = some qs) : RoundR ps bo lo hi V w e w' ↔ (e = .returned (.bool true) ∧ SolidO w' lo hi V qs) ∧ But lo hi w w' := by unfold RoundR; rw [h]
theorem roundR_none {ps : List BodyD} {bo : Int} {lo hi : Nat} {V : Value} {w w' : World} {e : Ending} (h : roundO ps bo (ps.length - 1) = none) : RoundR ps bo lo hi V w e w' ↔ e = .returned (.bool false) ∧ But lo hi w w' := by unfold RoundR; rw [h]
/-- A row's block, and its room. -/
theorem row_form {w : World} {lo hi : Nat} {ao : Option Addr} {n cap : Nat} {ps : List BodyD} (h : SolidO w lo hi (.slice ao n cap) ps) (hp : 0 < ps.length) : ∃ g, ao = some ⟨g, 0, none⟩ ∧ lo ≤ g ∧ g < hi ∧ n = ps.length ∧ ps.length ≤ cap := by
  have h2 := h.2
  rcases h.1.2 with ⟨hv, hx⟩ | ⟨g, c, cur, hv, hb, _, hc, _⟩
  · omega
  · cases hv
    exact ⟨g, rfl, hb, h2 g rfl, rfl, hc⟩
set_option maxHeartbeats 8000000 in
theorem pushRound (ps : List BodyD) (bo : Int) (lo hi : Nat) (V : Value) (w : World) (ho : SolidO w lo hi V ps) (hl : ps.length ≤ 20) (hw : Way ps) (hbo : 0 ≤ bo ∧ bo ≤ 100) :
    Calls Try.prog 57 #[V, .int .i64 bo] w (RoundR ps bo lo hi V w) := by
  obtain ⟨ao, cap, hfm⟩ := ho.form
  subst hfm
  go_enter Try.func57, Try.ntmps57
  repeat (first | go_values | go_skip | go_guarded | go_step | go_upon)
  have HO0 : Hid (SolidO w lo hi (.slice ao ps.length cap) ps) := ho
  have HW0 : Hid (Way ps) := hw
  clear ho hw
  go_loopw [5] (fun i wr => ∃ (k : Nat) (qs : List BodyD), (k + 1 ≤ ps.length ∨ k = 0) ∧ i = .int .i64 ((k + 1 : Nat) : Int) ∧ roundO ps bo k = some qs ∧ Way qs ∧ qs.length = ps.length ∧ SolidO wr lo hi (.slice ao ps.length cap) qs ∧ But lo hi w wr) (fun i _ => ps.length - (intOf i).toNat)
  case atStart => exact ⟨0, ps, Or.inr rfl, rfl, rfl, HW0.out, rfl, HO0.out, But.refl _ _ _⟩
  case round =>
    obtain ⟨k, qs, hk, rfl, hr, hw, hq, ho, hkp⟩ := hrel
    obtain ⟨I, hI⟩ : ∃ I, k + 1 = I := ⟨_, rfl⟩
    rw [hI]
    have HR : Hid (roundO ps bo k = some qs) := hr
    have HW : Hid (Way qs) := hw
    have HQ : Hid (qs.length = ps.length) := hq
    have HO : Hid (SolidO wr lo hi (.slice ao ps.length cap) qs) := ho
    have HK : Hid (But lo hi w wr) := hkp
    have HI : Hid (k + 1 = I) := hI
    have HKk : Hid (k + 1 ≤ ps.length ∨ k = 0) := hk
    clear hr hw ho hkp HO0 HW0 hk
    by_cases hlt : I < ps.length
    · obtain ⟨g, rfl, hg1, hg2, hx, hcap⟩ := row_form HO.out (by omega)
      obtain ⟨⟨x, p, m, r⟩, ha⟩ : ∃ z, qs[k]? = some z := ⟨_, List.getElem?_eq_getElem (by omega)⟩
      obtain ⟨⟨y, q, l, s⟩, hb⟩ : ∃ z, qs[k + 1]? = some z := ⟨_, List.getElem?_eq_getElem (by omega)⟩
      have hip := fun (c : Nat) => ipair qs k (k * 4) lo hi g ps.length cap c x p m r y q l s bo wr HO.out hq.symm rfl ha hb (HW.out.1 _ _ ha) (HW.out.1 _ _ hb) hbo
      have HIP : Hid _ := hip
      have HA : Hid (qs[k]? = some (x, p, m, r)) := ha
      have HB : Hid (qs[k + 1]? = some (y, q, l, s)) := hb
      have hcq : ps.length ≤ cap := by omega
      clear ha hb hip hq hcap hx
      have e1 : IntKind.i64.wrap ((I : Int) - 1) = (k : Int) := by rw [IntWalk.i64_in _ (by omega)]; omega
      have e2 : IntKind.i64.wrap ((I : Int) + 1) = (I : Int) + 1 := IntWalk.i64_in _ (by omega)
      clear hI
      have z1 : (0 : Int) ≤ (k : Int) := by omega
      have z2 : (k : Int) ≤ (I : Int) + 1 := by have := HI.out; omega
      have z3 : (I : Int) + 1 ≤ (cap : Int) := by omega
      have hst := roundO_step HR.out HA.out HB.out
      have HST : Hid (roundO ps bo (k + 1) = if InP (pairM (x, p, m, r) (y, q, l, s) bo).1 ∧ InP (pairM (x, p, m, r) (y, q, l, s) bo).2 then some (pushAt qs k bo) else none) := hst
      clear hst
      have f1 : (if cap = k then some (⟨g, 0, none⟩ : Addr) else some ⟨g, k * 4, none⟩) = some ⟨g, k * 4, none⟩ := if_neg (by have := HI.out; omega)
      have f2 : I + 1 - k = 2 := by have := HI.out; omega
      repeat (first | go_values | go_skip | go_guarded | go_step | go_upon)
      go_at_call 75
      (try rw [f1]); (try rw [f2])
      refine (HIP.out _).mono ?_
      by_cases hin : InP (pairM (x, p, m, r) (y, q, l, s) bo).1 ∧ InP (pairM (x, p, m, r) (y, q, l, s) bo).2
      · rw [decide_eq_true hin]
        rintro e w2 ⟨rfl, o2, k2⟩
        have HO2 : Hid (SolidO w2 lo hi (.slice (some ⟨g, 0, none⟩) ps.length cap) (pushAt qs k bo)) := o2
        have HK2 : Hid (But lo hi w w2) := HK.out.trans (k2.mono hg1 hg2)
        have HW2 : Hid (Way (pushAt qs k bo)) := HW.out.push HA.out HB.out hin.1 hin.2
        have HR2 : Hid (roundO ps bo (k + 1) = some (pushAt qs k bo)) := by
          show _ = _
          rw [HST.out, if_pos hin]
        clear o2 k2 f1 f2 e1 hin
        dsimp only
        repeat (first | go_values | go_skip | go_guarded | go_step | go_upon)
        have hIk := HI.out
        refine ⟨⟨k + 1, _, Or.inl (by omega), ?_, HR2.out, HW2.out, by rw [pushAt_len]; exact HQ.out, HO2.out, HK2.out⟩, by simp [intOf]; omega⟩
        congr 1
        omega
      · rw [decide_eq_false hin]
        rintro e w2 ⟨rfl, o2, k2⟩
        have HK2 : Hid (But lo hi w w2) := HK.out.trans (k2.mono hg1 hg2)
        have HN : Hid (roundO ps bo (ps.length - 1) = none) := roundO_none (k := k + 1) (by rw [HST.out, if_neg hin]) (by have := HI.out; omega)
        clear o2 k2 f1 f2 e1 hin
        dsimp only
        repeat (first | go_values | go_skip | go_guarded | go_step | go_upon)
        go_ret
        rw [roundR_none HN.out]
        exact ⟨rfl, HK2.out⟩
    · have hd : decide ((I : Int) < (ps.length : Int)) = false := by simp; omega
      have HN : Hid (roundO ps bo (ps.length - 1) = some qs) := by
        show _ = _
        rw [← HR.out]
        congr 1
        have := HI.out
        have := HKk.out
        omega
      clear HI hI
      repeat (first | go_values | go_skip | go_guarded | go_step | go_upon)
      go_ret
      rw [roundR_some HN.out]
      exact ⟨⟨rfl, HO.out⟩, HK.out⟩

end Go.Proofs.Ythpjjpgahmkpdaa
