/-
  The law FnMeant, walked.
-/
import Derived.Test.YthkfpbknfjapaaaDrawM17
import Derived.Test.YthkfpbknfjapaaaIMea17
import Derived.Test.YthkfpbknfjapaaaSMea17
import Derived.Test.YthkfpbknfjapaaaTurn17
import Derived.Test.YthkfpbknfjapaaaApp1x17
import Derived.BigQuiet
import Derived.Deep.QuietTactic
namespace Go.Proofs.Ythkfpbknfjapaaa
open Go.ChangeShapes Go.WideShapes Go.ChangeAt Go.RowKit

set_option maxRecDepth 100000
set_option linter.unusedVariables false

theorem forgetC9 {P : Program} {c : Go.Code} {Q : Exit → Act → World → Prop} {a : Act} {W : World} (F : World → Prop) (hF : F W) (h : ∀ W', F W' → Code.wp P c Q a W') : Code.wp P c Q a W := h W hF
theorem forgetK9 {K : Exit → Act → World → Prop} {x : Exit} {a : Act} {W : World} (F : World → Prop) (hF : F W) (h : ∀ W', F W' → K x a W') : K x a W := h W hF
set_option maxHeartbeats 16000000 in
theorem walk (ao : Option Addr) (len cap : Nat) (w : World) (hc : Code w ao len) (hl : len ≤ 1048576) :
    Calls Try.prog 3 #[.slice ao len cap] w fun e w' => e = .returned (.bool true) ∧ Kept w w' := by
  have hd : decide ((1048576 : Int) < (len : Int)) = false := decide_eq_false (by omega)
  go_enter Try.func3, Try.ntmps3
  repeat (first | go_values | go_skip | go_guarded | go_step | go_upon)
  go_at_call 10
  refine (drawM ao len cap _ hc (by omega)).mono ?_
  rintro e w1 ⟨l, es, v, v2, rfl, hll, hsm, hel, ob, op, k1⟩
  dsimp only
  obtain ⟨a1, c1, hf1⟩ := ob.form
  subst hf1
  obtain ⟨a2, c2, hf2⟩ := row_nil op
  subst hf2
  obtain ⟨L, ok, hL⟩ : ∃ L ok, meaA l es = (L, ok) := ⟨_, _, rfl⟩
  have hI := imeant l es a1 c1 (.slice a2 es.length c2) w1 ob.at (cap_binds ob) op (small_cost hsm (by omega)) (by omega)
  have hS := fun w2 (k : Kept w1 w2) => smeant l es a1 c1 (.slice a2 es.length c2) w2 (ob.at.kept k) (cap_binds ob) (op.kept k) (small_cost hsm (by omega)) (by omega)
  have hA := meaA_turn l es
  rw [hL] at hI hS hA
  have HI := hide hI
  have HS := hide hS
  have HA : Hid (Alt L) := hA
  have HK1 : Hid (Kept w w1) := k1
  clear hI hS hA hL ob op k1 hc hsm
  repeat (first | go_values | go_skip | go_guarded | go_step | go_upon)
  go_at_call 11
  refine Calls.mono HI.out ?_
  rintro e w2 ⟨vi, rfl, oi, k2⟩
  dsimp only
  obtain ⟨ai, ci, hfi⟩ := oi.form
  subst hfi
  have hcp := cap_meant oi
  have HOI : Hid (MeantAt w2 (.slice ai L.length ci) L) := oi.at
  have HK2 : Hid (Kept w1 w2) := k2
  clear oi k2 HI
  repeat (first | go_values | go_skip | go_guarded | go_step | go_upon)
  go_at_call 12
  refine (HS.out _ HK2.out).mono ?_
  rintro e w3 ⟨vs, rfl, os, k3⟩
  dsimp only
  obtain ⟨as9, cs9, hfs⟩ := os.form
  subst hfs
  have HOI3 : Hid (MeantAt w3 (.slice ai L.length ci) L) := HOI.out.kept k3
  have HOS3 : Hid (MeantAt w3 (.slice as9 L.length cs9) L) := os.at
  have HK3 : Hid (Kept w w3) := (HK1.out.trans HK2.out).trans k3
  clear os k3 HK1 HK2 HS HOI
  repeat (first | go_values | go_skip | go_guarded | go_step | go_upon)
  go_loopw [46] (fun iv wr => ∃ k : Nat, k ≤ L.length ∧ iv = .int .i64 k ∧ Kept w3 wr) (fun iv _ => L.length - (intOf iv).toNat)
  case atStart => exact ⟨0, by omega, rfl, But.refl _ _ _⟩
  case round =>
    obtain ⟨k, hk, rfl, hkp⟩ := hrel
    by_cases hlt : k < L.length
    · obtain ⟨m, hm⟩ : ∃ m, L[k]? = some m := ⟨_, List.getElem?_eq_getElem hlt⟩
      have hAl : Hid (lastOn m.2.1 (L.take k) ≠ m.2.2) := HA.out k m hm
      obtain ⟨b1, o1, cp1, e, c0, c1', c2'⟩ := meant_get (HOI3.out.kept hkp) hm
      cases e
      have HK : Hid (Kept w3 wr) := hkp
      have z1 : (0 : Int) ≤ (k : Int) := by omega
      have z2 : (k : Int) < (L.length : Int) := by omega
      have dl : decide ((k : Int) < (L.length : Int)) = true := decide_eq_true z2
      have hm' := hide hm
      obtain ⟨mt, ma, mo⟩ := m
      dsimp only at c0 c1' c2' hAl
      clear hkp hm
      repeat (go_not_at_region 11; first | go_values | go_skip | go_guarded | go_step | go_upon)
      refine forgetC9 (fun W' => Kept wr W' ∧ Loc W' wr.heap.size [.int .i64 mt, .string ma, .bool mo]) ⟨?_, ?_⟩ ?_
      · (repeat (first | with_reducible exact But.refl _ _ _ | with_reducible apply But.drewN | with_reducible apply But.alloc | (with_reducible refine But.setNew ?_ (by simp) _)))
      · exact Loc.new wr [.int .i64 mt, .string ma, .bool mo] 31
      intro W5 ⟨kW, LW5⟩
      clear c0 c1' c2'
      obtain ⟨b2, o2, cp2, e, s0, s1, s2⟩ := meant_get (HOS3.out.kept (HK.out.trans kW)) hm'.out
      cases e
      have g0 := LW5.cell 0 rfl
      have g1 := LW5.cell 1 rfl
      have g2 := LW5.cell 2 rfl
      have gl := LW5.lt
      have HK5 : Hid (Kept w3 W5) := HK.out.trans kW
      have HL5 : Hid (Loc W5 wr.heap.size [.int .i64 mt, .string ma, .bool mo]) := LW5
      clear LW5 kW HK
      dsimp only at s0 s1 s2
      generalize wr.heap.size = B at *
      go_wp2
      go_quiet (fail)
      refine forgetK9 (fun W' => Kept W5 W') ((But.refl _ _ W5).drewN _) ?_
      intro W6 k6
      have HK6 : Hid (Kept w3 W6) := HK5.out.trans k6
      have HL6 : Hid (Loc W6 B [.int .i64 mt, .string ma, .bool mo]) := HL5.out.kept k6
      have hkc : k ≤ ci := by omega
      clear g0 g1 g2 s0 s1 s2 k6 HK5 HL5 gl
      repeat (first | go_values | go_skip | go_guarded | go_step | go_upon)
      go_loopw [11, 61] (fun ov iv wq => ∃ j : Nat, j ≤ k ∧ iv = .int .i64 j ∧ ov = .bool (lastOn ma (L.take j)) ∧ Kept W6 wq) (fun ov iv _ => k - (intOf iv).toNat)
      case atStart => exact ⟨0, by omega, rfl, rfl, But.refl _ _ _⟩
      case round =>
        obtain ⟨j, hj, rfl, rfl, hq⟩ := hrel
        by_cases hjl : j < k
        · obtain ⟨x, hx⟩ : ∃ x, L[j]? = some x := ⟨_, List.getElem?_eq_getElem (by omega)⟩
          obtain ⟨b3, o3, cp3, e, q0, q1, q2⟩ := meant_get (HOI3.out.kept (HK6.out.trans hq)) hx
          cases e
          have hsn : lastOn ma (L.take (j + 1)) = if x.2.1 = ma then x.2.2 else lastOn ma (L.take j) := by rw [take_snoc hx, lastOn_snoc]
          have HSN := hide hsn
          obtain ⟨xt, xa, xo⟩ := x
          dsimp only at q0 q1 q2
          have L7 := HL6.out.kept hq
          have g1 := L7.cell 1 rfl
          have gl := L7.lt
          have HQ := hide hq
          have y1 : (0 : Int) ≤ (j : Int) := by omega
          have y2 : (j : Int) < (k : Int) := by omega
          have dj : decide ((j : Int) < (k : Int)) = true := decide_eq_true y2
          clear hq L7 hsn hx
          by_cases hxa : xa = ma
          · subst hxa
            repeat (first | go_values | go_skip | go_guarded | go_step | go_upon)
            exact ⟨⟨j + 1, hjl, by go_num, by rw [HSN.out, if_pos rfl], HQ.out.alloc _⟩, by simp [intOf]; omega⟩
          · have dx : (xa.toList == ma.toList) = false := beq_eq_false_iff_ne.2 (fun e => hxa (toList_inj e))
            repeat (first | go_values | go_skip | go_guarded | go_step | go_upon)
            exact ⟨⟨j + 1, hjl, by go_num, by rw [HSN.out, if_neg hxa], HQ.out.alloc _⟩, by simp [intOf]; omega⟩
        · have hje : j = k := by omega
          subst hje
          have dj : decide ((j : Int) < (j : Int)) = false := decide_eq_false (by omega)
          have L7 := HL6.out.kept hq
          have g2 := L7.cell 2 rfl
          have gl := L7.lt
          have hne := hAl.out
          have dn : (lastOn ma (L.take j) == mo) = false := by simp [hne]
          have HQ := hide hq
          generalize lastOn ma (L.take j) = on at *
          clear L7 hq
          repeat (first | go_values | go_skip | go_guarded | go_step | go_upon)
          exact ⟨⟨j + 1, hlt, by go_num, HK6.out.trans HQ.out⟩, by simp [intOf]; omega⟩
    · have hke : k = L.length := by omega
      subst hke
      have dl : decide ((L.length : Int) < (L.length : Int)) = false := decide_eq_false (by omega)
      repeat (first | go_values | go_skip | go_guarded | go_step | go_upon)
      go_ret
      exact ⟨rfl, HK3.out.trans hkp⟩

end Go.Proofs.Ythkfpbknfjapaaa
