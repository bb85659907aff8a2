/-
  The value of keys at a frame, as the specification finds it.
-/
import Derived.Test.YtpnplfngglfpoaaLeaf11
namespace Go.Proofs.Ytpnplfngglfpoaa
open Go.ChangeShapes Go.WideShapes Go.ChangeAt Go.RowKit

set_option maxRecDepth 100000
set_option linter.unusedVariables false

set_option maxHeartbeats 4000000 in
theorem sat (b : Int) (ps : List KeyD) (f : Int) (v : Value) (w : World) (hv : KeyAt w v ps) (hP : KeysP b ps) (hb : b ≤ 60) (hf : -100 ≤ f ∧ f ≤ 100) :
    Calls Try.prog 59 #[v, .int .i64 f] w fun e w' => e = .returned (.int .i64 (atK ps f)) ∧ Kept w w' := by
  obtain ⟨c, hc⟩ := hP.isC f
  have hcl := hc.1
  have h0 := hP.1.1
  have h60 := hP.1.2
  rw [atK_eq hc]
  obtain ⟨ao, cap, hsl⟩ := row_nil hv
  subst hsl
  obtain ⟨p0, hp0⟩ : ∃ p, ps[0]? = some p := ⟨_, List.getElem?_eq_getElem h0⟩
  obtain ⟨bb, o, cap', e, q0, q1⟩ := key_get hv hp0
  cases e
  by_cases c0 : c = 0
  · have ev : valC ps f c = p0.2 := by unfold valC; rw [if_pos c0, keyAt_some hp0]
    rw [ev]
    have hle : f ≤ p0.1 := Int.not_lt.1 (fun h => by have := (hc.2 _ _ hp0).2 h; omega)
    obtain ⟨g, gv⟩ := p0
    dsimp only at q0 q1 hle ⊢
    simp only [Nat.zero_mul, Nat.add_zero] at q0 q1
    have d1 : decide (f ≤ g) = true := decide_eq_true hle
    go_enter Try.func59, Try.ntmps59
    go_wp2
    go_ret
    exact ⟨rfl, But.refl _ _ _⟩
  have hlt0 : p0.1 < f := (hc.2 _ _ hp0).1 (by omega)
  obtain ⟨g0, gv0⟩ := p0
  dsimp only at q0 q1 hlt0
  simp only [Nat.zero_mul, Nat.add_zero] at q0 q1
  have d1 : decide (f ≤ g0) = false := decide_eq_false (by omega)
  have HC : Hid (IsC ps f c) := hc
  have HP : Hid (KeysP b ps) := hP
  have HV : Hid (KeyAt w (.slice (some ⟨bb, o, none⟩) ps.length cap) ps) := hv
  clear hc hP hp0 hv
  go_enter Try.func59, Try.ntmps59
  go_wp2
  go_loopw [5] (fun i wr => ∃ (k : Nat), 1 ≤ k ∧ k ≤ c ∧ i = .int .i64 k ∧ Kept w wr) (fun i _ => ps.length - (intOf i).toNat)
  case atStart => exact ⟨1, by omega, by omega, rfl, But.refl _ _ _⟩
  case round =>
    obtain ⟨j, hj1, hjc, rfl, hkp⟩ := hrel
    have hv1 := HV.out.kept hkp
    by_cases hlt : j < ps.length
    · obtain ⟨j', hj'⟩ : ∃ j', j = j' + 1 := ⟨j - 1, by omega⟩
      obtain ⟨a, ha⟩ : ∃ p, ps[j']? = some p := ⟨_, List.getElem?_eq_getElem (by omega)⟩
      obtain ⟨k, hk⟩ : ∃ p, ps[j]? = some p := ⟨_, List.getElem?_eq_getElem (by omega)⟩
      obtain ⟨bb2, o2, cap2, e, r0, r1⟩ := key_get hv1 ha
      cases e
      obtain ⟨bb2, o2, cap2, e, s0, s1⟩ := key_get hv1 hk
      cases e
      have l1 := HP.out.low ha
      have l2 := HP.out.low hk
      have f1 : a.1 < f := (HC.out.2 _ _ ha).1 (by omega)
      have ej : IntKind.i64.wrap ((j : Int) - 1) = (j' : Int) := by rw [IntWalk.i64_in _ (by omega)]; omega
      have z1 : (0 : Int) ≤ (j' : Int) := by omega
      have z2 : (j' : Int) < (ps.length : Int) := by omega
      have HA : Hid (ps[j']? = some a ∧ j = j' + 1) := ⟨ha, hj'⟩
      have HKK : Hid (ps[j]? = some k) := hk
      clear ha hk hj'
      by_cases hle : f ≤ k.1
      · have hp := btw_in (f := f) ⟨l1.1, by omega⟩ ⟨l2.1, by omega⟩ l1.2.2 l2.2.2 f1 hle
        have hvv := btw_bd l1.2.2 l2.2.2 f1 hle
        have ev : valC ps f c = a.2 + (k.2 - a.2) * (f - a.1) / (k.1 - a.1) := by
          have hjc' : ¬ j < c := fun h => by have := (HC.out.2 _ _ HKK.out).1 h; omega
          unfold valC
          rw [if_neg c0, if_neg (by omega), show c - 1 = j' by have := HA.out.2; omega, show c = j by omega, keyAt_some HA.out.1, keyAt_some HKK.out]
          rfl
        have EV : Hid (valC ps f c = a.2 + (k.2 - a.2) * (f - a.1) / (k.1 - a.1)) := ev
        have hvv2 : ValP (a.2 + (k.2 - a.2) * (f - a.1) / (k.1 - a.1)) := hvv
        clear hvv ev
        obtain ⟨a1, a2⟩ := a
        obtain ⟨b1, b2⟩ := k
        dsimp only at *
        have dl : decide (f ≤ b1) = true := decide_eq_true hle
        have w1 := l1.2.2
        have w2 := l2.2.2
        have e1 : IntKind.i64.wrap (b2 - a2) = b2 - a2 := IntWalk.i64_in _ (by omega)
        have e2 : IntKind.i64.wrap (f - a1) = f - a1 := IntWalk.i64_in _ (by omega)
        have e3 : IntKind.i64.wrap (b1 - a1) = b1 - a1 := IntWalk.i64_in _ (by omega)
        generalize hm : (b2 - a2) * (f - a1) = M at *
        have e4 : IntKind.i64.wrap M = M := IntWalk.i64_in _ (by omega)
        have dd := fun W => sdown M (b1 - a1) W (by omega) (by omega) (by omega) (by omega)
        generalize hq : M / (b1 - a1) = Q at *
        have e5 : IntKind.i64.wrap (a2 + Q) = a2 + Q := IntWalk.i64_in _ (by omega)
        have DD : Hid _ := dd
        have HK : Hid (Kept w wr) := hkp
        have hgw : bb < wr.heap.size := World.block_lt_of_cell? _ _ r0
        clear dd hq hkp hv1
        repeat (first | go_values | go_skip | go_guarded | go_step | go_upon)
        refine wp_region_kept (by kernel_rfl) (by kernel_rfl) ?_
        have hcc := @KW.cell_eq
        repeat (go_big_quiet_step (first | (go_at_call 86; exact kw_same (DD.out _))))
        refine wpQuiet_nil ?_
        rintro _ ⟨⟨w5, k5⟩, rfl⟩
        clear hcc
        repeat (first | go_values | go_skip | go_guarded | go_step | go_upon)
        go_ret
        exact ⟨ret_intG EV.out.symm, (HK.out.trans (by (repeat (first | with_reducible exact But.refl _ _ _ | with_reducible apply But.drewN | with_reducible apply But.drew | with_reducible apply But.alloc | (with_reducible refine But.setNew ?_ (by simp +arith) _))))).trans k5⟩
      · have dl : decide (f ≤ k.1) = false := decide_eq_false hle
        have hgw : bb < wr.heap.size := World.block_lt_of_cell? _ _ r0
        have hjc' : j < c := (HC.out.2 _ _ HKK.out).2 (by omega)
        obtain ⟨a1, a2⟩ := a
        obtain ⟨b1, b2⟩ := k
        dsimp only at *
        have HK : Hid (Kept w wr) := hkp
        clear hkp hv1
        go_wp2
        exact ⟨⟨j + 1, by omega, hjc', by go_num, HK.out.trans (by (repeat (first | with_reducible exact But.refl _ _ _ | with_reducible apply But.drewN | with_reducible apply But.drew | with_reducible apply But.alloc | (with_reducible refine But.setNew ?_ (by simp +arith) _))))⟩, by simp [intOf]; omega⟩
    · obtain ⟨c', hc'⟩ : ∃ c', ps.length = c' + 1 := ⟨ps.length - 1, by omega⟩
      obtain ⟨a, ha⟩ : ∃ p, ps[c']? = some p := ⟨_, List.getElem?_eq_getElem (by omega)⟩
      obtain ⟨bb2, o2, cap2, e, r0, r1⟩ := key_get hv1 ha
      cases e
      have ev : valC ps f c = a.2 := by
        unfold valC
        rw [if_neg c0, if_pos (by omega), show c - 1 = c' by omega, keyAt_some ha]
      have EV : Hid (valC ps f c = a.2) := ev
      have ec : IntKind.i64.wrap ((ps.length : Int) - 1) = (c' : Int) := by rw [IntWalk.i64_in _ (by omega)]; omega
      have z1 : (0 : Int) ≤ (c' : Int) := by omega
      have z2 : (c' : Int) < (ps.length : Int) := by omega
      obtain ⟨a1, a2⟩ := a
      dsimp only at *
      have HC' : Hid (ps.length = c' + 1) := hc'
      clear hc' ha ev hv1
      go_wp2
      go_ret
      exact ⟨ret_intG EV.out.symm, hkp⟩

end Go.Proofs.Ytpnplfngglfpoaa
