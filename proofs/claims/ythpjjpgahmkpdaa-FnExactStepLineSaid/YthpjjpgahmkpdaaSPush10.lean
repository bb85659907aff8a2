/-
  PushLine of the specification.
-/
import Derived.Test.YthpjjpgahmkpdaaPLineM10
import Derived.Test.YthpjjpgahmkpdaaLine10
import Derived.Test.YthpjjpgahmkpdaaPair10
import Derived.Deep.DeepCutAuto
namespace Go.Proofs.Ythpjjpgahmkpdaa
open Go.ChangeShapes Go.WideShapes Go.ChangeAt Go.RowKit

set_option maxRecDepth 100000
set_option linter.unusedVariables false
set_option linter.unusedSimpArgs false

theorem row_formB {w : World} {lo hi : Nat} {ao : Option Addr} {n cap : Nat} {ps : List BodyD} (h : BodyO w lo hi (.slice ao n cap) ps) (hp : 0 < ps.length) : ∃ g, ao = some ⟨g, 0, none⟩ ∧ lo ≤ g ∧ g < hi ∧ n = ps.length ∧ ps.length ≤ cap := by
  have h2 := h.2
  rcases h.1.2 with ⟨hv, hx⟩ | ⟨g, c, cur, hv, hb, _, hc, _⟩
  · omega
  · cases hv
    exact ⟨g, rfl, hb, h2 g rfl, rfl, hc⟩
theorem new1 {W w3 : World} {t : TypeId} (k : Kept (W.alloc (Obj.cells #[.int .i64 0, .int .i64 0, .int .i64 0, .int .i64 0] t)).drew w3) : Loc w3 W.heap.size [.int .i64 0, .int .i64 0, .int .i64 0, .int .i64 0] := (Loc.new W [.int .i64 0, .int .i64 0, .int .i64 0, .int .i64 0] t).kept ((But.refl _ _ _).drew.trans k)
theorem new2 {W w3 : World} {t t' : TypeId} (k : Kept ((W.alloc (Obj.cells #[.int .i64 0, .int .i64 0, .int .i64 0, .int .i64 0] t)).alloc (Obj.cells #[.int .i64 0, .int .i64 0, .int .i64 0, .int .i64 0] t')).drew w3) : Loc w3 W.heap.size [.int .i64 0, .int .i64 0, .int .i64 0, .int .i64 0] ∧ Loc w3 (W.heap.size + 1) [.int .i64 0, .int .i64 0, .int .i64 0, .int .i64 0] := by
  refine ⟨((Loc.new W [.int .i64 0, .int .i64 0, .int .i64 0, .int .i64 0] t).alloc _).kept ((But.refl _ _ _).drew.trans k), ?_⟩
  have := (Loc.new (W.alloc (Obj.cells #[.int .i64 0, .int .i64 0, .int .i64 0, .int .i64 0] t)) [.int .i64 0, .int .i64 0, .int .i64 0, .int .i64 0] t').kept ((But.refl _ _ _).drew.trans k)
  simpa using this
theorem hold8 {W W' : World} {p0 p1 p2 p3 p4 p5 p6 p7 : Addr} {v0 v1 v2 v3 v4 v5 v6 v7 : Value} (h0 : W.cell? p0 = some v0) (h1 : W.cell? p1 = some v1) (h2 : W.cell? p2 = some v2) (h3 : W.cell? p3 = some v3) (h4 : W.cell? p4 = some v4) (h5 : W.cell? p5 = some v5) (h6 : W.cell? p6 = some v6) (h7 : W.cell? p7 = some v7) (K : Kept W W') : W'.cell? p0 = some v0 ∧ W'.cell? p1 = some v1 ∧ W'.cell? p2 = some v2 ∧ W'.cell? p3 = some v3 ∧ W'.cell? p4 = some v4 ∧ W'.cell? p5 = some v5 ∧ W'.cell? p6 = some v6 ∧ W'.cell? p7 = some v7 := ⟨Kept.cell K h0, Kept.cell K h1, Kept.cell K h2, Kept.cell K h3, Kept.cell K h4, Kept.cell K h5, Kept.cell K h6, Kept.cell K h7⟩
theorem own_new (w : World) (t : TypeId) : (w.alloc (.cells #[] t)).ownsRow w.heap.size t 4 (.slice (some ⟨w.heap.size, 0, none⟩) 0 0) 0 [] := ⟨rfl, Or.inr ⟨w.heap.size, 0, #[], rfl, Nat.le_refl _, heap_alloc_new w _, Nat.le_refl _, Nat.zero_le _, rfl, rfl⟩⟩
theorem news_of {w : World} {ad : Addr} {n cap : Nat} {ps : List BodyD} (h : BodyAt w (.slice (some ad) n cap) ps) : ∀ j u, (ps.flatMap bodyC)[j]? = some u → w.cell? (ad.add j) = some u := fun j u hu => by
  obtain ⟨ao, c, e, hc⟩ := h
  cases e
  obtain ⟨b, o, e, hcell⟩ := hc j u hu
  cases e
  rw [Go.WideShapes.add_plain]
  exact hcell
theorem flat4 (ps : List BodyD) : (ps.flatMap bodyC).length = ps.length * 4 := by
  induction ps with
  | nil => rfl
  | cons p r ih => rw [List.flatMap_cons, List.length_append, ih, bodyC_len, List.length_cons]; omega
theorem one_all (ps : List BodyD) : ∀ u ∈ ps.flatMap bodyC, u.oneCell' = true := fun u hu => by
  obtain ⟨p, _, hp⟩ := List.mem_flatMap.1 hu
  exact one_body p u hp

set_option maxHeartbeats 8000000 in
theorem spush (ps : List BodyD) (bo ro : Int) (v : Value) (w : World) (hv : BodyAt w v ps) (hn : ps.length ≤ 1048576) :
    Calls Try.prog 59 #[v, .int .i64 bo, .int .i64 ro] w (PushR (pushA ps bo ro) w) := by
  obtain ⟨ao, cap, hsl⟩ := row_nil hv
  subst hsl
  by_cases h : LineP ps
  · have dl : decide (LineP ps) = true := decide_eq_true h
    by_cases hb : 0 ≤ bo ∧ bo ≤ 100
    · have db : decide (0 ≤ bo ∧ bo ≤ 100) = true := decide_eq_true hb
      by_cases hr : 0 ≤ ro ∧ ro ≤ 50
      · have dr : decide (0 ≤ ro ∧ ro ≤ 50) = true := decide_eq_true hr
        obtain ⟨R, rfl⟩ : ∃ R : Nat, ro = (R : Int) := ⟨ro.toNat, by omega⟩
        have HA : Hid (pushA ps bo (R : Int) = roundsO ps bo R) := by
          show _ = _
          rw [pushA, if_pos ⟨h, hb, hr⟩]; rfl
        have hl20 := h.1
        obtain ⟨i0, hi0, hz0, hz1, hz2⟩ := info_parts infoBody
        have HL : Hid (LineP ps) := h
        have HV : Hid (BodyAt w (.slice ao ps.length cap) ps) := hv
        cases ao with
        | none =>
          have hp0 : ps = [] := by
            cases ps with
            | nil => rfl
            | cons p r =>
              obtain ⟨a, c, e, hc⟩ := hv
              obtain ⟨b, o, e2, _⟩ := hc 0 (.int .i64 p.1) (by simp [bodyC])
              rw [e2] at e
              cases e
          subst hp0
          go_enter Try.func59, Try.ntmps59
          repeat (first | (go_at_call 22; refine (sgoodline _ _ _ hv hn).mono ?_; rw [dl]; rintro e w1 ⟨rfl, k1⟩; have HK1 : Hid (Kept w w1) := k1; clear k1; dsimp only) | (go_at_call 73; refine (sbounce _ _).mono ?_; rw [db]; rintro e w9 ⟨rfl, hw9⟩; rw [hw9]; clear hw9; dsimp only) | (go_at_call 77; refine (sIn _ _ _ _).mono ?_; rw [dr]; rintro e w9 ⟨rfl, hw9⟩; rw [hw9]; clear hw9; dsimp only) | go_values | go_skip | go_guarded | go_step | go_upon)
          obtain ⟨w2, hE2⟩ : ∃ z, w1.alloc (Obj.cells #[] 33) = z := ⟨_, rfl⟩
          (try rw [hE2])
          have HK2 : Hid (Kept w w2) := (show Kept w w2 by rw [← hE2]; exact HK1.out.alloc _)
          have HO2 : Hid (BodyO w2 w1.heap.size w2.heap.size (.slice (some ⟨w1.heap.size, 0, none⟩) 0 0) []) := (show BodyO w2 w1.heap.size w2.heap.size (.slice (some ⟨w1.heap.size, 0, none⟩) 0 0) [] by rw [← hE2]; exact RowO.top (own_new w1 33))
          clear hE2
          have hlo := HK1.out.size
          have hw2 := HK2.out.size
          clear hv h
          go_loopw [2] (fun t2 wr => ∃ (k : Nat) (qs : List BodyD), k ≤ R ∧ t2 = .int .i64 ((R - k : Nat) : Int) ∧ roundsO ([] : List BodyD) bo k = some qs ∧ BodyO wr w1.heap.size w2.heap.size (.slice (some ⟨w1.heap.size, 0, none⟩) 0 0) qs ∧ But w1.heap.size w2.heap.size w2 wr) (fun t2 _ => (intOf t2).toNat)
          case atStart => exact ⟨0, ([] : List BodyD), by omega, rfl, rfl, HO2.out, But.refl _ _ _⟩
          case round =>
            obtain ⟨k, qs, hk, rfl, hrk, ho, hkp⟩ := hrel
            obtain ⟨hway, hlen⟩ := roundsO_way HL.out.way hrk
            have HR : Hid (roundsO ([] : List BodyD) bo k = some qs) := hrk
            have HO : Hid (BodyO wr w1.heap.size w2.heap.size (.slice (some ⟨w1.heap.size, 0, none⟩) 0 0) qs) := ho
            have HK : Hid (But w1.heap.size w2.heap.size w2 wr) := hkp
            have HW : Hid (Way qs) := hway
            have HQ : Hid (qs.length = ([] : List BodyD).length) := hlen
            clear hrk ho hkp hway hlen HO2
            obtain ⟨D, hD⟩ : ∃ D, R - k = D := ⟨_, rfl⟩
            rw [hD]
            have HD : Hid (R - k = D) := hD
            clear hD
            by_cases hlt : k < R
            · have d0 : decide (0 < D) = true := decide_eq_true (by have := HD.out; omega)
              repeat (first | go_values | go_skip | go_guarded | go_step | go_upon)
              go_loopw [9] (fun t9 wr => ∃ (i : Nat) (rs : List BodyD), (i + 1 ≤ ([] : List BodyD).length ∨ i = 0) ∧ t9 = .int .i64 (i : Int) ∧ roundO qs bo i = some rs ∧ BodyO wr w1.heap.size w2.heap.size (.slice (some ⟨w1.heap.size, 0, none⟩) 0 0) rs ∧ But w1.heap.size w2.heap.size w2 wr) (fun t9 _ => ([] : List BodyD).length - (intOf t9).toNat)
              case atStart => exact ⟨0, qs, Or.inr rfl, rfl, rfl, HO.out, HK.out⟩
              case round =>
                obtain ⟨i, rs, hi, rfl, hri, ho, hkp⟩ := hrel
                obtain ⟨hway, hlen⟩ := roundO_way HW.out hri
                have HRi : Hid (roundO qs bo i = some rs) := hri
                have HOi : Hid (BodyO wr w1.heap.size w2.heap.size (.slice (some ⟨w1.heap.size, 0, none⟩) 0 0) rs) := ho
                have HKi : Hid (But w1.heap.size w2.heap.size w2 wr) := hkp
                have HWi : Hid (Way rs) := hway
                have HQi : Hid (rs.length = ([] : List BodyD).length) := hlen.trans HQ.out
                have HI0 : Hid (i + 1 ≤ ([] : List BodyD).length ∨ i = 0) := hi
                clear hri ho hkp hway hlen HO HK hi
                obtain ⟨I, hI⟩ : ∃ I, i + 1 = I := ⟨_, rfl⟩
                have hi20 : i ≤ 20 := by have := HI0.out; omega
                have eI : IntKind.i64.wrap ((i : Int) + 1) = (I : Int) := by rw [IntWalk.i64_in _ (by omega)]; omega
                have HI : Hid (i + 1 = I) := hI
                by_cases hil : I < ([] : List BodyD).length
                · exact absurd hil (by simp)
                · have dI : decide ((I : Int) < (([] : List BodyD).length : Int)) = false := by first | (simp; done) | (simp; omega)
                  have HF : Hid (roundsO ([] : List BodyD) bo (k + 1) = some rs) := by
                    show _ = _
                    rw [roundsO_step HR.out, ← HRi.out]
                    congr 1
                    have := HQ.out
                    have := HI0.out
                    omega
                  clear hI
                  obtain ⟨E, hE⟩ : ∃ E, R - (k + 1) = E := ⟨_, rfl⟩
                  have eE : IntKind.i64.wrap ((D : Int) - 1) = (E : Int) := by
                    have := HD.out
                    rw [IntWalk.i64_in _ (by omega)]; omega
                  have HE : Hid (R - (k + 1) = E) := hE
                  clear hE
                  repeat (first | go_values | go_skip | go_guarded | go_step | go_upon)
                  refine ⟨⟨k + 1, rs, hlt, by rw [HE.out], HF.out, HOi.out, HKi.out⟩, ?_⟩
                  have := HE.out
                  have := HD.out
                  simp [intOf]
                  omega
            · have d0 : decide (0 < D) = false := decide_eq_false (by have := HD.out; omega)
              have HKE : Hid (k = R) := by show k = R; omega
              repeat (first | go_values | go_skip | go_guarded | go_step | go_upon)
              refine bodyPost_ret (v := .tuple #[(.slice (some ⟨w1.heap.size, 0, none⟩) 0 0), .bool true]) (by simp [results, Try.results59, go_sem]) rfl ?_
              rw [HA.out, ← HKE.out, HR.out]
              exact ⟨_, rfl, HO.out.mono hlo HK.out.size, But.onto HK2.out HK.out hlo⟩
        | some ad =>
          go_enter Try.func59, Try.ntmps59
          repeat (first
            | (go_at_call 22; refine (sgoodline _ _ _ hv hn).mono ?_; rw [dl]; rintro e w1 ⟨rfl, k1⟩; have HK1 : Hid (Kept w w1) := k1; clear k1; dsimp only)
            | (go_at_call 73; refine (sbounce _ _).mono ?_; rw [db]; rintro e w9 ⟨rfl, hw9⟩; rw [hw9]; clear hw9; dsimp only)
            | (go_at_call 77; refine (sIn _ _ _ _).mono ?_; rw [dr]; rintro e w9 ⟨rfl, hw9⟩; rw [hw9]; clear hw9; dsimp only)
            | (at_builtin
               refine wpList_append_own _ rfl _ _ 23 rfl w1.heap.size 33 i0 (.agg #[.int .i64 0, .int .i64 0, .int .i64 0, .int .i64 0]) 4 32 Try.underlying23 hi0 hz0 hz1 hz2 rfl (by decide) _ _ _ rfl (own_new w1 33) ad ps.length cap (ps.flatMap bodyC) rfl (flat4 ps) (news_of ((HV.out.kept HK1.out).kept ((But.refl _ _ w1).alloc _))) (one_all ps) (by unfold maxLen; omega) (by omega) (by simp) ?_
               intro v' w2 hown' hgrow _
               rw [Nat.zero_add, List.nil_append] at hown'
               obtain ⟨ao5, cap5, hf5, _⟩ := own_form hown'
               subst hf5
               have HK2 : Hid (Kept w w2) := (HK1.out.alloc _).grown hgrow (by intro x hx; have := HK1.out.size; have h9 : w1.heap.size = x := Option.some.inj hx; omega)
               have HO2 : Hid (BodyO w2 w1.heap.size w2.heap.size (.slice ao5 ps.length cap5) ps) := (RowO.top hown')
               clear hgrow hown')
            | go_values | go_skip | go_guarded | go_step | go_upon)
          have hlo := HK1.out.size
          have hw2 := HK2.out.size
          clear hv h
          go_loopw [2] (fun t2 wr => ∃ (k : Nat) (qs : List BodyD), k ≤ R ∧ t2 = .int .i64 ((R - k : Nat) : Int) ∧ roundsO ps bo k = some qs ∧ BodyO wr w1.heap.size w2.heap.size (.slice ao5 ps.length cap5) qs ∧ But w1.heap.size w2.heap.size w2 wr) (fun t2 _ => (intOf t2).toNat)
          case atStart => exact ⟨0, ps, by omega, rfl, rfl, HO2.out, But.refl _ _ _⟩
          case round =>
            obtain ⟨k, qs, hk, rfl, hrk, ho, hkp⟩ := hrel
            obtain ⟨hway, hlen⟩ := roundsO_way HL.out.way hrk
            have HR : Hid (roundsO ps bo k = some qs) := hrk
            have HO : Hid (BodyO wr w1.heap.size w2.heap.size (.slice ao5 ps.length cap5) qs) := ho
            have HK : Hid (But w1.heap.size w2.heap.size w2 wr) := hkp
            have HW : Hid (Way qs) := hway
            have HQ : Hid (qs.length = ps.length) := hlen
            clear hrk ho hkp hway hlen HO2
            obtain ⟨D, hD⟩ : ∃ D, R - k = D := ⟨_, rfl⟩
            rw [hD]
            have HD : Hid (R - k = D) := hD
            clear hD
            by_cases hlt : k < R
            · have d0 : decide (0 < D) = true := decide_eq_true (by have := HD.out; omega)
              repeat (first | go_values | go_skip | go_guarded | go_step | go_upon)
              go_loopw [9] (fun t9 wr => ∃ (i : Nat) (rs : List BodyD), (i + 1 ≤ ps.length ∨ i = 0) ∧ t9 = .int .i64 (i : Int) ∧ roundO qs bo i = some rs ∧ BodyO wr w1.heap.size w2.heap.size (.slice ao5 ps.length cap5) rs ∧ But w1.heap.size w2.heap.size w2 wr) (fun t9 _ => ps.length - (intOf t9).toNat)
              case atStart => exact ⟨0, qs, Or.inr rfl, rfl, rfl, HO.out, HK.out⟩
              case round =>
                obtain ⟨i, rs, hi, rfl, hri, ho, hkp⟩ := hrel
                obtain ⟨hway, hlen⟩ := roundO_way HW.out hri
                have HRi : Hid (roundO qs bo i = some rs) := hri
                have HOi : Hid (BodyO wr w1.heap.size w2.heap.size (.slice ao5 ps.length cap5) rs) := ho
                have HKi : Hid (But w1.heap.size w2.heap.size w2 wr) := hkp
                have HWi : Hid (Way rs) := hway
                have HQi : Hid (rs.length = ps.length) := hlen.trans HQ.out
                have HI0 : Hid (i + 1 ≤ ps.length ∨ i = 0) := hi
                clear hri ho hkp hway hlen HO HK hi
                obtain ⟨I, hI⟩ : ∃ I, i + 1 = I := ⟨_, rfl⟩
                have hi20 : i ≤ 20 := by have := HI0.out; omega
                have eI : IntKind.i64.wrap ((i : Int) + 1) = (I : Int) := by rw [IntWalk.i64_in _ (by omega)]; omega
                have HI : Hid (i + 1 = I) := hI
                by_cases hil : I < ps.length
                · clear hI
                  obtain ⟨g, rfl, hg1, hg2, hx, hcap⟩ := row_formB HOi.out (by rw [HQi.out]; omega)
                  obtain ⟨⟨x, p, m, r⟩, ha⟩ : ∃ z, rs[i]? = some z := ⟨_, List.getElem?_eq_getElem (by rw [HQi.out]; have := HI.out; omega)⟩
                  obtain ⟨⟨y, q, l, s⟩, hb'⟩ : ∃ z, rs[I]? = some z := ⟨_, List.getElem?_eq_getElem (by rw [HQi.out]; omega)⟩
                  obtain ⟨a0, a1, a2, a3, zf⟩ := HOi.out.cells ha
                  obtain ⟨b0, b1, b2, b3, _⟩ := HOi.out.cells hb'
                  dsimp only at a0 a1 a2 a3 b0 b1 b2 b3
                  have pa := HWi.out.1 _ _ ha
                  have pb := HWi.out.1 _ _ hb'
                  obtain ⟨P1, hP1⟩ : ∃ z, (pairM (x, p, m, r) (y, q, l, s) bo).1 = (x, z, m, r) := ⟨_, rfl⟩
                  obtain ⟨P2, hP2⟩ : ∃ z, (pairM (x, p, m, r) (y, q, l, s) bo).2 = (y, z, l, s) := ⟨_, rfl⟩
                  have g1 : BodyP (x, P1, m, r) ↔ InP (x, P1, m, r) := by rw [← hP1]; exact took_good pa _
                  have g2 : BodyP (y, P2, l, s) ↔ InP (y, P2, l, s) := by rw [← hP2]; exact took_good pb _
                  have hst := roundO_step HRi.out ha (by rw [HI.out]; exact hb')
                  rw [hP1, hP2] at hst
                  have HST : Hid (roundO qs bo (i + 1) = if InP (x, P1, m, r) ∧ InP (y, P2, l, s) then some (pushAt rs i bo) else none) := hst
                  have hpu : pushAt rs i bo = (rs.set i (x, P1, m, r)).set I (y, P2, l, s) := by
                    rw [pushAt_some ha (by rw [HI.out]; exact hb'), hP1, hP2, HI.out]
                  have HPU : Hid (pushAt rs i bo = (rs.set i (x, P1, m, r)).set I (y, P2, l, s)) := hpu
                  have hsp := fun W => spair x p m r y q l s bo W pa pb hb
                  rw [hP1, hP2] at hsp
                  have HSP : Hid (∀ W : World, Calls Try.prog 74 #[.agg #[.int .i64 x, .int .i64 p, .int .i64 m, .int .i64 r], .agg #[.int .i64 y, .int .i64 q, .int .i64 l, .int .i64 s], .int .i64 bo] W fun e w' => e = .returned (.tuple #[.agg #[.int .i64 x, .int .i64 P1, .int .i64 m, .int .i64 r], .agg #[.int .i64 y, .int .i64 P2, .int .i64 l, .int .i64 s]]) ∧ Kept W w') := hsp
                  have HG : Hid ((BodyP (x, P1, m, r) ↔ InP (x, P1, m, r)) ∧ (BodyP (y, P2, l, s) ↔ InP (y, P2, l, s))) := ⟨g1, g2⟩
                  have HAi : Hid (rs[i]? = some (x, p, m, r)) := ha
                  have HBi : Hid (rs[I]? = some (y, q, l, s)) := hb'
                  have hg := cell_lt a0
                  have dI : decide ((I : Int) < (ps.length : Int)) = true := by simp; omega
                  have z1 : (i : Int) < (ps.length : Int) := by have := HI.out; omega
                  have z2 : (I : Int) < (ps.length : Int) := by omega
                  have z3 : (0 : Int) ≤ (I : Int) := by omega
                  clear ha hb' pa pb hP1 hP2 g1 g2 hst hpu hsp zf hx
                  repeat (go_not_at_region 9; first | go_values | go_skip | go_guarded | go_step | go_upon)
                  go_cut [10, 11] (fun ta tb wx => ∃ X Y : Nat, ta = .pointer (some ⟨X, 0, none⟩) ∧ tb = .pointer (some ⟨Y, 0, none⟩) ∧ wx.cell? ⟨X, 0, none⟩ = some (.int .i64 x) ∧ wx.cell? ⟨X, 1, none⟩ = some (.int .i64 P1) ∧ wx.cell? ⟨X, 2, none⟩ = some (.int .i64 m) ∧ wx.cell? ⟨X, 3, none⟩ = some (.int .i64 r) ∧ wx.cell? ⟨Y, 0, none⟩ = some (.int .i64 y) ∧ wx.cell? ⟨Y, 1, none⟩ = some (.int .i64 P2) ∧ wx.cell? ⟨Y, 2, none⟩ = some (.int .i64 l) ∧ wx.cell? ⟨Y, 3, none⟩ = some (.int .i64 s) ∧ wr.heap.size ≤ X ∧ wr.heap.size ≤ Y ∧ Kept wr wx)
                  case first =>
                    go_region_held3 (fun w' => w'.cell? ⟨g, i * 4, none⟩ = some (.int .i64 x) ∧ w'.cell? ⟨g, i * 4 + 1, none⟩ = some (.int .i64 p) ∧ w'.cell? ⟨g, i * 4 + 2, none⟩ = some (.int .i64 m) ∧ w'.cell? ⟨g, i * 4 + 3, none⟩ = some (.int .i64 r) ∧ w'.cell? ⟨g, I * 4, none⟩ = some (.int .i64 y) ∧ w'.cell? ⟨g, I * 4 + 1, none⟩ = some (.int .i64 q) ∧ w'.cell? ⟨g, I * 4 + 2, none⟩ = some (.int .i64 l) ∧ w'.cell? ⟨g, I * 4 + 3, none⟩ = some (.int .i64 s)) (first | (refine hold8 a0 a1 a2 a3 b0 b1 b2 b3 ?_; (repeat (first | with_reducible exact kw3 | with_reducible exact But.refl _ _ _ | with_reducible apply But.drewN | with_reducible apply But.drew | with_reducible apply But.alloc | (with_reducible refine But.setNew ?_ (by first | (simp; done) | (simp; omega)) _)))))
                      (first | (go_at_call 74; refine (HSP.out _).mono ?_; rintro e w3 ⟨rfl, k3⟩; have kw3 : Kept wr w3 := (by refine But.trans ?_ k3; (repeat (first | with_reducible exact But.refl _ _ _ | with_reducible apply But.drewN | with_reducible apply But.drew | with_reducible apply But.alloc))); have c0 := Kept.cell kw3 a0; have e0 := Kept.cell kw3 b0; have c1 := Kept.cell kw3 a1; have e1 := Kept.cell kw3 b1; have c2 := Kept.cell kw3 a2; have e2 := Kept.cell kw3 b2; have c3 := Kept.cell kw3 a3; have e3 := Kept.cell kw3 b3; have hg3 := cell_lt c0; have hz3 := kw3.size; (first | (obtain ⟨L0, L1⟩ := new2 k3; have y0_0 := L0.cell 0 rfl; have f0_0 := L0.frozen 0; have y0_1 := L0.cell 1 rfl; have f0_1 := L0.frozen 1; have y0_2 := L0.cell 2 rfl; have f0_2 := L0.frozen 2; have y0_3 := L0.cell 3 rfl; have f0_3 := L0.frozen 3; have hlt0 := L0.lt; clear L0; have y1_0 := L1.cell 0 rfl; have f1_0 := L1.frozen 0; have y1_1 := L1.cell 1 rfl; have f1_1 := L1.frozen 1; have y1_2 := L1.cell 2 rfl; have f1_2 := L1.frozen 2; have y1_3 := L1.cell 3 rfl; have f1_3 := L1.frozen 3; have hlt1 := L1.lt; clear L1) | (have L0 := new1 k3; have y0_0 := L0.cell 0 rfl; have f0_0 := L0.frozen 0; have y0_1 := L0.cell 1 rfl; have f0_1 := L0.frozen 1; have y0_2 := L0.cell 2 rfl; have f0_2 := L0.frozen 2; have y0_3 := L0.cell 3 rfl; have f0_3 := L0.frozen 3; have hlt0 := L0.lt; clear L0) | skip); have hng : ¬ g = wr.heap.size := (by omega); have hng' : ¬ wr.heap.size = g := (by omega); have hnh : ¬ g = wr.heap.size + 1 := (by omega); have hnh' : ¬ wr.heap.size + 1 = g := (by omega); clear k3))
                    all_goals
                      repeat (first | go_values | go_skip | go_guarded | go_step | go_upon)
                      go_meet
                      case rel => exact ⟨_, _, rfl, rfl, by simp [go_sem, *], by simp [go_sem, *], by simp [go_sem, *], by simp [go_sem, *], by simp [go_sem, *], by simp [go_sem, *], by simp [go_sem, *], by simp [go_sem, *], by first | omega | simp, by first | omega | simp, by (repeat (first | with_reducible exact kw3 | with_reducible exact But.refl _ _ _ | with_reducible apply But.drewN | with_reducible apply But.drew | with_reducible apply But.alloc | (with_reducible refine But.setNew ?_ (by first | (simp; done) | (simp; omega)) _)))⟩
                  case rest =>
                    obtain ⟨X, Y, rfl, rfl, x0, x1, x2, x3, y0, y1, y2, y3, hX, hY, kc⟩ := hcut
                    have HOc : Hid (BodyO wc w1.heap.size w2.heap.size (.slice (some ⟨g, 0, none⟩) ps.length cap5) rs) := HOi.out.kept kc
                    have HKc : Hid (But w1.heap.size w2.heap.size w2 wc) := HKi.out.transK kc
                    have hXl := cell_lt x0
                    have hYl := cell_lt y0
                    clear kc a0 a1 a2 a3 b0 b1 b2 b3
                    by_cases i1 : BodyP (x, P1, m, r)
                    · have d1 : decide (BodyP (x, P1, m, r)) = true := decide_eq_true i1
                      by_cases i2 : BodyP (y, P2, l, s)
                      · have d2 : decide (BodyP (y, P2, l, s)) = true := decide_eq_true i2
                        have HF : Hid (roundO qs bo (i + 1) = some ((rs.set i (x, P1, m, r)).set I (y, P2, l, s))) := by
                          show _ = _
                          rw [HST.out, if_pos ⟨HG.out.1.1 i1, HG.out.2.1 i2⟩, HPU.out]
                        clear i1 i2
                        repeat (first | go_values | go_skip | go_guarded | go_step | go_upon)
                        go_at_call 71
                        refine (sbody _ _ _ _ _).mono ?_
                        rw [d1]
                        rintro e u3 ⟨rfl, k3⟩
                        have HK3 : Hid (Kept wc u3) := k3
                        have x0 := Kept.cell k3 x0; have y0 := Kept.cell k3 y0; have x1 := Kept.cell k3 x1; have y1 := Kept.cell k3 y1; have x2 := Kept.cell k3 x2; have y2 := Kept.cell k3 y2; have x3 := Kept.cell k3 x3; have y3 := Kept.cell k3 y3
                        have hXl := cell_lt x0
                        have hYl := cell_lt y0
                        clear k3
                        dsimp only
                        repeat (first | go_values | go_skip | go_guarded | go_step | go_upon)
                        go_at_call 71
                        refine (sbody _ _ _ _ _).mono ?_
                        rw [d2]
                        rintro e u4 ⟨rfl, k4⟩
                        have HK4 : Hid (Kept wc u4) := HK3.out.trans k4
                        have x0 := Kept.cell k4 x0; have y0 := Kept.cell k4 y0; have x1 := Kept.cell k4 x1; have y1 := Kept.cell k4 y1; have x2 := Kept.cell k4 x2; have y2 := Kept.cell k4 y2; have x3 := Kept.cell k4 x3; have y3 := Kept.cell k4 y3
                        have hXl := cell_lt x0
                        have hYl := cell_lt y0
                        have o4 := HOc.out.kept HK4.out
                        obtain ⟨c0, c1, c2, c3, zf⟩ := o4.cells HAi.out
                        obtain ⟨s1, s2, s3, o5⟩ := o4.store HQi.out.symm HAi.out (x, P1, m, r)
                        have hbI : (rs.set i (x, P1, m, r))[I]? = some (y, q, l, s) := by rw [List.getElem?_set_ne (by have := HI.out; omega)]; exact HBi.out
                        obtain ⟨t0, t1, t2, t3, tz⟩ := o5.cells hbI
                        obtain ⟨r1, r2, r3, o6⟩ := o5.store (by rw [List.length_set]; exact HQi.out.symm) hbI (y, P2, l, s)
                        dsimp only at c0 c1 c2 c3 s1 s2 s3 t0 t1 t2 t3 r1 r2 r3
                        have kb : But g (g + 1) u4 ((((u4.setCell ⟨g, i * 4, none⟩ (.int .i64 x)).setCell ⟨g, i * 4 + 1, none⟩ (.int .i64 P1)).setCell ⟨g, i * 4 + 2, none⟩ (.int .i64 m)).setCell ⟨g, i * 4 + 3, none⟩ (.int .i64 r)) := ((((But.refl _ _ _).setCell (by simp) (by simp) _).setCell (by simp) (by simp) _).setCell (by simp) (by simp) _).setCell (by simp) (by simp) _
                        have v0 := But.cell kb y0 (by simp; omega)
                        have v1 := But.cell kb y1 (by simp; omega)
                        have v2 := But.cell kb y2 (by simp; omega)
                        have v3 := But.cell kb y3 (by simp; omega)
                        have zz0 := zf (i * 4); have zy0 := tz (I * 4); have zz1 := zf (i * 4 + 1); have zy1 := tz (I * 4 + 1); have zz2 := zf (i * 4 + 2); have zy2 := tz (I * 4 + 2); have zz3 := zf (i * 4 + 3); have zy3 := tz (I * 4 + 3)
                        have HO6 : Hid _ := o6
                        have HB6 : Hid (But w1.heap.size w2.heap.size u4 ((((u4.setCell ⟨g, i * 4, none⟩ (.int .i64 x)).setCell ⟨g, i * 4 + 1, none⟩ (.int .i64 P1)).setCell ⟨g, i * 4 + 2, none⟩ (.int .i64 m)).setCell ⟨g, i * 4 + 3, none⟩ (.int .i64 r))) := kb.mono hg1 hg2
                        clear o4 o5 o6 hbI kb k4 zf tz y0 y1 y2 y3
                        dsimp only
                        repeat (first | go_values | go_skip | go_guarded | go_step | go_upon)
                        have hIi := HI.out
                        refine ⟨⟨i + 1, _, Or.inl (by omega), by rw [HI.out], HF.out, HO6.out, (HKc.out.transK HK4.out).trans (HB6.out.trans (((((But.refl _ _ _).setCell (by simpa using hg1) (by simpa using hg2) _).setCell (by simpa using hg1) (by simpa using hg2) _).setCell (by simpa using hg1) (by simpa using hg2) _).setCell (by simpa using hg1) (by simpa using hg2) _))⟩, by simp [intOf]; omega⟩
                      · have d2 : decide (BodyP (y, P2, l, s)) = false := decide_eq_false i2
                        have HN : Hid (pushA ps bo (R : Int) = none) := by
                          show _ = _
                          rw [HA.out]
                          refine roundsO_none (k := k + 1) ?_ hlt
                          rw [roundsO_step HR.out]
                          refine roundO_none (k := i + 1) ?_ (by rw [HQ.out]; have := HI.out; omega)
                          rw [HST.out, if_neg (fun h => i2 (HG.out.2.2 h.2))]
                        clear i1 i2
                        repeat (first | go_values | go_skip | go_guarded | go_step | go_upon)
                        go_at_call 71
                        refine (sbody _ _ _ _ _).mono ?_
                        rw [d1]
                        rintro e u3 ⟨rfl, k3⟩
                        have HK3 : Hid (Kept wc u3) := k3
                        have x0 := Kept.cell k3 x0; have y0 := Kept.cell k3 y0; have x1 := Kept.cell k3 x1; have y1 := Kept.cell k3 y1; have x2 := Kept.cell k3 x2; have y2 := Kept.cell k3 y2; have x3 := Kept.cell k3 x3; have y3 := Kept.cell k3 y3
                        have hXl := cell_lt x0
                        have hYl := cell_lt y0
                        clear k3
                        dsimp only
                        repeat (first | go_values | go_skip | go_guarded | go_step | go_upon)
                        go_at_call 71
                        refine (sbody _ _ _ _ _).mono ?_
                        rw [d2]
                        rintro e u4 ⟨rfl, k4⟩
                        have HK4 : Hid (Kept wc u4) := HK3.out.trans k4
                        have x0 := Kept.cell k4 x0; have y0 := Kept.cell k4 y0; have x1 := Kept.cell k4 x1; have y1 := Kept.cell k4 y1; have x2 := Kept.cell k4 x2; have y2 := Kept.cell k4 y2; have x3 := Kept.cell k4 x3; have y3 := Kept.cell k4 y3
                        have hXl := cell_lt x0
                        have hYl := cell_lt y0
                        clear k4
                        dsimp only
                        repeat (first | go_values | go_skip | go_guarded | go_step | go_upon)
                        repeat (first | go_values | go_skip | go_guarded | go_step | go_upon)
                        refine bodyPost_ret (v := .tuple #[.slice none 0 0, .bool false]) (by simp [results, Try.results59, go_sem]) rfl ?_
                        rw [HN.out]
                        exact pushR_none rfl (But.onto HK2.out (HKc.out.transK HK4.out) hlo)
                    · have d1 : decide (BodyP (x, P1, m, r)) = false := decide_eq_false i1
                      have HN : Hid (pushA ps bo (R : Int) = none) := by
                        show _ = _
                        rw [HA.out]
                        refine roundsO_none (k := k + 1) ?_ hlt
                        rw [roundsO_step HR.out]
                        refine roundO_none (k := i + 1) ?_ (by rw [HQ.out]; have := HI.out; omega)
                        rw [HST.out, if_neg (fun h => i1 (HG.out.1.2 h.1))]
                      clear i1
                      repeat (first | go_values | go_skip | go_guarded | go_step | go_upon)
                      go_at_call 71
                      refine (sbody _ _ _ _ _).mono ?_
                      rw [d1]
                      rintro e u3 ⟨rfl, k3⟩
                      have HK3 : Hid (Kept wc u3) := k3
                      have x0 := Kept.cell k3 x0; have y0 := Kept.cell k3 y0; have x1 := Kept.cell k3 x1; have y1 := Kept.cell k3 y1; have x2 := Kept.cell k3 x2; have y2 := Kept.cell k3 y2; have x3 := Kept.cell k3 x3; have y3 := Kept.cell k3 y3
                      have hXl := cell_lt x0
                      have hYl := cell_lt y0
                      clear k3
                      dsimp only
                      repeat (first | go_values | go_skip | go_guarded | go_step | go_upon)
                      repeat (first | go_values | go_skip | go_guarded | go_step | go_upon)
                      refine bodyPost_ret (v := .tuple #[.slice none 0 0, .bool false]) (by simp [results, Try.results59, go_sem]) rfl ?_
                      rw [HN.out]
                      exact pushR_none rfl (But.onto HK2.out (HKc.out.transK HK3.out) hlo)
                · have dI : decide ((I : Int) < (ps.length : Int)) = false := by first | (simp; done) | (simp; omega)
                  have HF : Hid (roundsO ps bo (k + 1) = some rs) := by
                    show _ = _
                    rw [roundsO_step HR.out, ← HRi.out]
                    congr 1
                    have := HQ.out
                    have := HI0.out
                    omega
                  clear hI
                  obtain ⟨E, hE⟩ : ∃ E, R - (k + 1) = E := ⟨_, rfl⟩
                  have eE : IntKind.i64.wrap ((D : Int) - 1) = (E : Int) := by
                    have := HD.out
                    rw [IntWalk.i64_in _ (by omega)]; omega
                  have HE : Hid (R - (k + 1) = E) := hE
                  clear hE
                  repeat (first | go_values | go_skip | go_guarded | go_step | go_upon)
                  refine ⟨⟨k + 1, rs, hlt, by rw [HE.out], HF.out, HOi.out, HKi.out⟩, ?_⟩
                  have := HE.out
                  have := HD.out
                  simp [intOf]
                  omega
            · have d0 : decide (0 < D) = false := decide_eq_false (by have := HD.out; omega)
              have HKE : Hid (k = R) := by show k = R; omega
              repeat (first | go_values | go_skip | go_guarded | go_step | go_upon)
              refine bodyPost_ret (v := .tuple #[(.slice ao5 ps.length cap5), .bool true]) (by simp [results, Try.results59, go_sem]) rfl ?_
              rw [HA.out, ← HKE.out, HR.out]
              exact ⟨_, rfl, HO.out.mono hlo HK.out.size, But.onto HK2.out HK.out hlo⟩
      · have dr : decide (0 ≤ ro ∧ ro ≤ 50) = false := decide_eq_false hr
        have HA : Hid (pushA ps bo ro = none) := by
          show _ = _
          rw [pushA, if_neg (fun hh => hr hh.2.2)]
        go_enter Try.func59, Try.ntmps59
        repeat (first | (go_at_call 22; refine (sgoodline _ _ _ hv hn).mono ?_; rw [dl]; rintro e w1 ⟨rfl, k1⟩; have HK1 : Hid (Kept w w1) := k1; clear k1; dsimp only) | (go_at_call 73; refine (sbounce _ _).mono ?_; rw [db]; rintro e w9 ⟨rfl, hw9⟩; rw [hw9]; clear hw9; dsimp only) | (go_at_call 77; refine (sIn _ _ _ _).mono ?_; rw [dr]; rintro e w9 ⟨rfl, hw9⟩; rw [hw9]; clear hw9; dsimp only) | go_values | go_skip | go_guarded | go_step | go_upon)
        repeat (first | go_values | go_skip | go_guarded | go_step | go_upon)
        refine bodyPost_ret (v := .tuple #[.slice none 0 0, .bool false]) (by simp [results, Try.results59, go_sem]) rfl ?_
        rw [HA.out]
        exact pushR_none rfl HK1.out

    · have db : decide (0 ≤ bo ∧ bo ≤ 100) = false := decide_eq_false hb
      have HA : Hid (pushA ps bo ro = none) := by
        show _ = _
        rw [pushA, if_neg (fun hh => hb hh.2.1)]
      go_enter Try.func59, Try.ntmps59
      repeat (first | (go_at_call 22; refine (sgoodline _ _ _ hv hn).mono ?_; rw [dl]; rintro e w1 ⟨rfl, k1⟩; have HK1 : Hid (Kept w w1) := k1; clear k1; dsimp only) | (go_at_call 73; refine (sbounce _ _).mono ?_; rw [db]; rintro e w9 ⟨rfl, hw9⟩; rw [hw9]; clear hw9; dsimp only) | go_values | go_skip | go_guarded | go_step | go_upon)
      repeat (first | go_values | go_skip | go_guarded | go_step | go_upon)
      refine bodyPost_ret (v := .tuple #[.slice none 0 0, .bool false]) (by simp [results, Try.results59, go_sem]) rfl ?_
      rw [HA.out]
      exact pushR_none rfl HK1.out

  · have dl : decide (LineP ps) = false := decide_eq_false h
    have HA : Hid (pushA ps bo ro = none) := by
      show _ = _
      rw [pushA, if_neg (fun hh => h hh.1)]
    go_enter Try.func59, Try.ntmps59
    repeat (first | (go_at_call 22; refine (sgoodline _ _ _ hv hn).mono ?_; rw [dl]; rintro e w1 ⟨rfl, k1⟩; have HK1 : Hid (Kept w w1) := k1; clear k1; dsimp only) | go_values | go_skip | go_guarded | go_step | go_upon)
    repeat (first | go_values | go_skip | go_guarded | go_step | go_upon)
    refine bodyPost_ret (v := .tuple #[.slice none 0 0, .bool false]) (by simp [results, Try.results59, go_sem]) rfl ?_
    rw [HA.out]
    exact pushR_none rfl HK1.out


end Go.Proofs.Ythpjjpgahmkpdaa
