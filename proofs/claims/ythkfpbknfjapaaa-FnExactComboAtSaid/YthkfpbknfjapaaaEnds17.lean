/-
  Whether the last ones are the combo, in the program.
-/
import Derived.Test.YthkfpbknfjapaaaComboP17
import Derived.Test.YthkfpbknfjapaaaTxt
import Derived.Test.YthkfpbknfjapaaaQuiet
namespace Go.Proofs.Ythkfpbknfjapaaa
open Go.ChangeShapes Go.WideShapes Go.ChangeAt Go.RowKit

set_option maxRecDepth 100000
set_option linter.unusedVariables false

set_option maxHeartbeats 8000000 in
theorem iends (ws : List MeantD) (cs : List ByteArray) (most : Int) (v u : Value) (w : World) (hv : MeantAt w v ws) (hu : TxtAt w u cs) (hn : ws.length ≤ 1048576) (hm : 1 ≤ cs.length ∧ cs.length ≤ 1048576) (ht : ∀ d ∈ ws, 0 ≤ d.1 ∧ d.1 ≤ 100000) :
    Calls Try.prog 81 #[v, u, .int .i64 most] w fun e w' => e = .returned (.bool (dec (EndP ws cs most))) ∧ Kept w w' := by
  obtain ⟨ao, cap, hsl⟩ := row_nil hv
  subst hsl
  obtain ⟨ao', cap', hsl⟩ := row_nil hu
  subst hsl
  obtain ⟨hm1, hm2⟩ := hm
  have NO : Hid (¬ EndP ws cs most → dec (EndP ws cs most) = false) := fun h => dec_no h
  have YES : Hid (EndP ws cs most → dec (EndP ws cs most) = true) := fun h => dec_yes h
  generalize dec (EndP ws cs most) = R at *
  by_cases hlen : ws.length < cs.length
  · have hR := NO.out (fun h => by have := h.1; omega)
    subst hR
    have dl : decide ((ws.length : Int) - (cs.length : Int) < 0) = true := by simp; omega
    go_enter Try.func81, Try.ntmps81
    repeat (first | go_values | go_skip | go_guarded | go_step | go_upon)
    go_ret
    exact ⟨rfl, But.refl _ _ _⟩
  obtain ⟨B, hB⟩ : ∃ B : Nat, B = ws.length - cs.length := ⟨_, rfl⟩
  have HB : Hid (ws.length - cs.length = B) := hB.symm
  have eB : (ws.length : Int) - (cs.length : Int) = (B : Int) := by omega
  have hBl : B + cs.length ≤ ws.length := by omega
  clear hB
  go_enter Try.func81, Try.ntmps81
  repeat (first | go_values | go_skip | go_guarded | go_step | go_upon)
  go_loopw [19] (fun i wr => ∃ (k : Nat), k ≤ cs.length ∧ i = .int .i64 k ∧ Hid (∀ i d s, i < k → ws[B + i]? = some d → cs[i]? = some s → (d.2.1.toList == s.toList) = true) ∧ Kept w wr) (fun i _ => cs.length - (intOf i).toNat)
  case atStart => exact ⟨0, by omega, rfl, fun i d s hi => by omega, But.refl _ _ _⟩
  case round =>
    obtain ⟨k, hk, rfl, HI, hkp⟩ := hrel
    by_cases hlt : k < cs.length
    · obtain ⟨s, hs⟩ : ∃ p, cs[k]? = some p := ⟨_, List.getElem?_eq_getElem hlt⟩
      obtain ⟨M, hM⟩ : ∃ M : Nat, M = B + k := ⟨_, rfl⟩
      obtain ⟨d, hd⟩ : ∃ p, ws[M]? = some p := ⟨_, List.getElem?_eq_getElem (by omega)⟩
      obtain ⟨g, o, cap1, ee, c0⟩ := txt_get (hu.kept hkp) hs
      cases ee
      obtain ⟨g', o', cap1, ee, d0, d1, d2⟩ := meant_get (hv.kept hkp) hd
      cases ee
      have HK : Hid (Kept w wr) := hkp
      have HS : Hid (cs[k]? = some s ∧ ws[B + k]? = some d) := ⟨hs, by rw [← hM]; exact hd⟩
      obtain ⟨t0, nm, on⟩ := d
      dsimp only at d0 d1 d2
      have y1 : (0 : Int) ≤ (M : Int) := by omega
      have y2 : (M : Int) < (ws.length : Int) := by omega
      have y3 : IntKind.i64.wrap ((B : Int) + (k : Int)) = (M : Int) := by rw [IntWalk.i64_in _ (by omega)]; omega
      clear hkp hs hd hM
      cases q : (nm.toList == s.toList) with
      | true =>
        repeat (first | go_values | go_skip | go_guarded | go_step | go_upon)
        exact ⟨⟨k + 1, hlt, by go_num, (fun i d' s' hi hd' hs' => by
          by_cases e : i = k
          · subst e
            rw [HS.out.2] at hd'
            rw [HS.out.1] at hs'
            cases hd'
            cases hs'
            exact q
          · exact HI.out i d' s' (by omega) hd' hs'), HK.out⟩, by simp [intOf]; omega⟩
      | false =>
        have hR := NO.out (fun h => by
          have := h.2.1 k _ s hlt (by rw [HB.out]; exact HS.out.2) HS.out.1
          dsimp only at this
          rw [q] at this
          exact absurd this (by simp))
        subst hR
        repeat (first | go_values | go_skip | go_guarded | go_step | go_upon)
        go_ret
        exact ⟨rfl, HK.out⟩
    · have hke : k = cs.length := by omega
      subst hke
      obtain ⟨a, ha⟩ : ∃ p, ws[B]? = some p := ⟨_, List.getElem?_eq_getElem (by omega)⟩
      obtain ⟨Z, hZ⟩ : ∃ Z : Nat, ws.length = Z + 1 := ⟨ws.length - 1, by omega⟩
      obtain ⟨z, hz⟩ : ∃ p, ws[Z]? = some p := ⟨_, List.getElem?_eq_getElem (by omega)⟩
      obtain ⟨g, o, cap1, ee, c0, c1, c2⟩ := meant_get (hv.kept hkp) ha
      cases ee
      obtain ⟨g', o', cap1, ee, d0, d1, d2⟩ := meant_get (hv.kept hkp) hz
      cases ee
      obtain ⟨ta1, ta2⟩ := ht a (List.mem_of_getElem? ha)
      obtain ⟨tz1, tz2⟩ := ht z (List.mem_of_getElem? hz)
      have HK : Hid (Kept w wr) := hkp
      have HF : Hid (EndP ws cs most ↔ z.1 - a.1 ≤ most) := by
        constructor
        · intro h
          exact h.2.2 a z (by rw [HB.out]; exact ha) (by rw [hZ]; simpa using hz)
        · intro h
          refine ⟨by omega, fun i d s hi hd hs => HI.out i d s hi (by rw [← HB.out]; exact hd) hs, fun a' z' ha' hz' => ?_⟩
          rw [HB.out, ha] at ha'
          rw [show ws.length - 1 = Z by omega, hz] at hz'
          cases ha'
          cases hz'
          exact h
      obtain ⟨t0, nm, on⟩ := a
      obtain ⟨t1, nm', on'⟩ := z
      dsimp only at c0 c1 c2 d0 d1 d2 ta1 ta2 tz1 tz2 HF
      have z1 : (0 : Int) ≤ (B : Int) := by omega
      have z2 : (B : Int) < (ws.length : Int) := by omega
      have z3 : (0 : Int) ≤ (Z : Int) := by omega
      have z4 : (Z : Int) < (ws.length : Int) := by omega
      have ez : (ws.length : Int) - 1 = (Z : Int) := by omega
      have ez2 : IntKind.i64.wrap ((ws.length : Int) - 1) = (Z : Int) := by rw [IntWalk.i64_in _ (by omega)]; omega
      have es : IntKind.i64.wrap (t1 - t0) = t1 - t0 := IntWalk.i64_in _ (by omega)
      have hgw : g < wr.heap.size := World.block_lt_of_cell? _ _ c0
      clear hkp ha hz hZ hv hu HI hlt
      have hRR : R = decide (t1 - t0 ≤ most) := by
        by_cases h : t1 - t0 ≤ most
        · rw [YES.out (HF.out.2 h), decide_eq_true h]
        · rw [NO.out (fun h' => h (HF.out.1 h')), decide_eq_false h]
      have HRR : Hid (R = decide (t1 - t0 ≤ most)) := hRR
      clear hRR
      repeat (first | go_values | go_skip | go_guarded | go_step | go_upon)
      refine wp_region_kept (by kernel_rfl) (by kernel_rfl) ?_
      have hcc := @KW.cell_eq
      repeat (go_big_quiet_step (first | fail))
      refine wpQuiet_nil ?_
      rintro w5 ⟨⟨w8, k5⟩, h9⟩
      change w5 = w8 at h9
      subst h9
      clear hcc
      repeat (first | go_values | go_skip | go_guarded | go_step | go_upon)
      go_ret
      exact ⟨ret_boolG HRR.out.symm, HK.out.trans k5⟩

end Go.Proofs.Ythkfpbknfjapaaa
