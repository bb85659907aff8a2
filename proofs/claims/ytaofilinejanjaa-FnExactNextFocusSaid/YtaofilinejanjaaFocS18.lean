/-
  NextFocus of the specification.
-/
import Derived.Test.YtaofilinejanjaaFocP18
import Derived.Test.YtaofilinejanjaaQuiet
namespace Go.Proofs.Ytaofilinejanjaa
open Go.ChangeShapes Go.WideShapes Go.ChangeAt Go.RowKit

set_option maxRecDepth 100000
set_option linter.unusedVariables false

set_option maxHeartbeats 16000000 in
theorem sfoc (l : List PlacedD) (at' way : Int) (v : Value) (w : World) (hv : PlacedAt w v l) (hn : l.length ≤ 1048576) :
    Calls Try.prog 28 #[v, .int .i64 at', .int .i64 way] w fun e w' => e = .returned (.tuple #[.int .i64 (focA l at' way).1, .bool (focA l at' way).2]) ∧ Kept w w' := by
  obtain ⟨ao, cap, hsl⟩ := row_nil hv
  subst hsl
  by_cases h1 : 40 < l.length
  · have d1 : decide ((40 : Int) < (l.length : Int)) = true := decide_eq_true (by omega)
    have NOK : ¬ FocOk l at' way := fun h => by have := h.1.1; omega
    rw [focA_no NOK]
    clear NOK
    go_enter Try.func28, Try.ntmps28
    repeat (first | (go_at_call 31; refine (sInG _ _ _ _).mono ?_; rintro e w3 ⟨rfl, hw3⟩; rw [hw3]; clear hw3 w3; (first | rw [d2] | rw [d3]); dsimp only) | go_values | go_skip | go_guarded | go_step | go_upon)
    go_ret2
    exact ⟨rfl, But.refl _ _ _⟩
  have d1 : decide ((40 : Int) < (l.length : Int)) = false := decide_eq_false (by omega)
  rcases (Decidable.em (0 ≤ at' ∧ at' ≤ (l.length : Int) - 1)).symm with h2 | h2
  · have d2 : decide (0 ≤ at' ∧ at' ≤ (l.length : Int) - 1) = false := decide_eq_false h2
    have NOK : ¬ FocOk l at' way := fun h => h2 h.2.1
    rw [focA_no NOK]
    clear NOK
    go_enter Try.func28, Try.ntmps28
    repeat (first | (go_at_call 31; refine (sInG _ _ _ _).mono ?_; rintro e w3 ⟨rfl, hw3⟩; rw [hw3]; clear hw3 w3; (first | rw [d2] | rw [d3]); dsimp only) | go_values | go_skip | go_guarded | go_step | go_upon)
    go_ret2
    exact ⟨rfl, But.refl _ _ _⟩
  have d2 : decide (0 ≤ at' ∧ at' ≤ (l.length : Int) - 1) = true := decide_eq_true h2
  rcases (Decidable.em (0 ≤ way ∧ way ≤ 3)).symm with h3 | h3
  · have d3 : decide (0 ≤ way ∧ way ≤ 3) = false := decide_eq_false h3
    have NOK : ¬ FocOk l at' way := fun h => h3 h.2.2
    rw [focA_no NOK]
    clear NOK
    go_enter Try.func28, Try.ntmps28
    repeat (first | (go_at_call 31; refine (sInG _ _ _ _).mono ?_; rintro e w3 ⟨rfl, hw3⟩; rw [hw3]; clear hw3 w3; (first | rw [d2] | rw [d3]); dsimp only) | go_values | go_skip | go_guarded | go_step | go_upon)
    go_ret2
    exact ⟨rfl, But.refl _ _ _⟩
  have d3 : decide (0 ≤ way ∧ way ≤ 3) = true := decide_eq_true h3
  obtain ⟨t, rfl⟩ : ∃ t : Nat, at' = (t : Int) := ⟨at'.toNat, by omega⟩
  have htl : t < l.length := by omega
  obtain ⟨a, ha⟩ : ∃ p, l[t]? = some p := ⟨_, List.getElem?_eq_getElem htl⟩
  have HH2 : Hid (0 ≤ (t : Int) ∧ (t : Int) ≤ (l.length : Int) - 1) := h2
  have HFN : Hid (¬ PlsP l → focA l (t : Int) way = (0, false)) := fun h => focA_no (fun h' => h h'.1)
  have HFY : Hid (PlsP l → focA l (t : Int) way = ((focK l a way l.length).1, true)) := fun h => focA_yes ⟨h, HH2.out, h3⟩ ha
  generalize focA l (t : Int) way = R at *
  go_enter Try.func28, Try.ntmps28
  repeat (first | (go_at_call 31; refine (sInG _ _ _ _).mono ?_; rintro e w3 ⟨rfl, hw3⟩; rw [hw3]; clear hw3 w3; (first | rw [d2] | rw [d3]); dsimp only) | go_values | go_skip | go_guarded | go_step | go_upon)
  clear d1 d2 d3 h2
  go_loopw [37] (fun i wr => ∃ (k : Nat), k ≤ l.length ∧ i = .int .i64 k ∧ Hid (∀ j, j < k → ∀ d, l[j]? = some d → PlOk d) ∧ Kept w wr) (fun i _ => l.length - (intOf i).toNat)
  case atStart => exact ⟨0, by omega, rfl, (fun j hj => by omega : ∀ j, j < 0 → ∀ d, l[j]? = some d → PlOk d), But.refl _ _ _⟩
  case round =>
    obtain ⟨j, hk, rfl, HB, hkp⟩ := hrel
    by_cases hlt : j < l.length
    · obtain ⟨d, hd⟩ : ∃ p, l[j]? = some p := ⟨_, List.getElem?_eq_getElem hlt⟩
      obtain ⟨b, o, cap', ee, c0, c1, c2, c3⟩ := placed_get (hv.kept hkp) hd
      cases ee
      have NJ : Hid (¬ PlOk d → R = (0, false)) := fun h => HFN.out (fun h' => h (h'.2 j hlt d hd))
      have HP : Hid (l[j]? = some d) := hd
      have HK : Hid (Kept w wr) := hkp
      obtain ⟨x, y, z, u⟩ := d
      dsimp only at c0 c1 c2 c3
      clear hkp hv hd ha
      rcases (Decidable.em (0 ≤ x ∧ x ≤ 40000)).symm with qx | qx
      · have dx : decide (0 ≤ x ∧ x ≤ 40000) = false := decide_eq_false qx
        have hR := NJ.out (fun h => qx h.1)
        subst hR
        repeat (first | (go_at_call 31; refine (sInG _ _ _ _).mono ?_; rintro e w3 ⟨rfl, hw3⟩; rw [hw3]; clear hw3 w3; (first | rw [dx] | rw [dy] | rw [dz] | rw [du]); dsimp only) | go_values | go_skip | go_guarded | go_step | go_upon)
        go_ret2
        exact ⟨rfl, HK.out.alloc _⟩
      have dx : decide (0 ≤ x ∧ x ≤ 40000) = true := decide_eq_true qx
      rcases (Decidable.em (0 ≤ y ∧ y ≤ 40000)).symm with qy | qy
      · have dy : decide (0 ≤ y ∧ y ≤ 40000) = false := decide_eq_false qy
        have hR := NJ.out (fun h => qy h.2.1)
        subst hR
        repeat (first | (go_at_call 31; refine (sInG _ _ _ _).mono ?_; rintro e w3 ⟨rfl, hw3⟩; rw [hw3]; clear hw3 w3; (first | rw [dx] | rw [dy] | rw [dz] | rw [du]); dsimp only) | go_values | go_skip | go_guarded | go_step | go_upon)
        go_ret2
        exact ⟨rfl, HK.out.alloc _⟩
      have dy : decide (0 ≤ y ∧ y ≤ 40000) = true := decide_eq_true qy
      rcases (Decidable.em (0 ≤ z ∧ z ≤ 40000)).symm with qz | qz
      · have dz : decide (0 ≤ z ∧ z ≤ 40000) = false := decide_eq_false qz
        have hR := NJ.out (fun h => qz h.2.2.1)
        subst hR
        repeat (first | (go_at_call 31; refine (sInG _ _ _ _).mono ?_; rintro e w3 ⟨rfl, hw3⟩; rw [hw3]; clear hw3 w3; (first | rw [dx] | rw [dy] | rw [dz] | rw [du]); dsimp only) | go_values | go_skip | go_guarded | go_step | go_upon)
        go_ret2
        exact ⟨rfl, HK.out.alloc _⟩
      have dz : decide (0 ≤ z ∧ z ≤ 40000) = true := decide_eq_true qz
      rcases (Decidable.em (0 ≤ u ∧ u ≤ 40000)).symm with qu | qu
      · have du : decide (0 ≤ u ∧ u ≤ 40000) = false := decide_eq_false qu
        have hR := NJ.out (fun h => qu h.2.2.2)
        subst hR
        repeat (first | (go_at_call 31; refine (sInG _ _ _ _).mono ?_; rintro e w3 ⟨rfl, hw3⟩; rw [hw3]; clear hw3 w3; (first | rw [dx] | rw [dy] | rw [dz] | rw [du]); dsimp only) | go_values | go_skip | go_guarded | go_step | go_upon)
        go_ret2
        exact ⟨rfl, HK.out.alloc _⟩
      have du : decide (0 ≤ u ∧ u ≤ 40000) = true := decide_eq_true qu
      have I : Hid (∀ i, i < j + 1 → ∀ d, l[i]? = some d → PlOk d) := all_more HB.out (fun d hd => by
        rw [HP.out] at hd
        cases hd
        exact ⟨qx, qy, qz, qu⟩)
      repeat (first | (go_at_call 31; refine (sInG _ _ _ _).mono ?_; rintro e w3 ⟨rfl, hw3⟩; rw [hw3]; clear hw3 w3; (first | rw [dx] | rw [dy] | rw [dz] | rw [du]); dsimp only) | go_values | go_skip | go_guarded | go_step | go_upon)
      exact ⟨⟨j + 1, hlt, by go_num, I, HK.out.alloc _⟩, by simp [intOf]; omega⟩
    · have hke : j = l.length := by omega
      subst hke
      have H1 : Hid (PlsP l) := show PlsP l from ⟨by omega, HB.out⟩
      have hR := HFY.out H1.out
      subst hR
      have hao := H1.out.2 t htl a ha
      have k1 := hkp
      clear hkp HB hlt hk HFN HFY
      rename World => w1
      go_wp2
      go_loopw [10, 11, 66] (fun bb ll i wr => ∃ (k : Nat) (BL : Int × Int), k ≤ l.length ∧ i = .int .i64 k ∧ bb = .int .i64 BL.1 ∧ ll = .int .i64 BL.2 ∧ Hid (focK l a way k = BL) ∧ -1 ≤ BL.1 ∧ BL.1 ≤ 1048576 ∧ Kept w wr) (fun bb ll i _ => l.length - (intOf i).toNat)
      case atStart => exact ⟨0, (-1, 0), by omega, rfl, rfl, rfl, (show focK l a way 0 = (-1, 0) from rfl), by omega, by omega, k1⟩
      case round =>
        obtain ⟨j, ⟨B, M⟩, hk, rfl, rfl, rfl, HF, hb1, hb2, hkp⟩ := hrel
        dsimp only at hb1 hb2
        by_cases hlt : j < l.length
        · obtain ⟨p, hp⟩ : ∃ p, l[j]? = some p := ⟨_, List.getElem?_eq_getElem hlt⟩
          have hpo := H1.out.2 j hlt p hp
          obtain ⟨b, o, cap', ee, c0, c1, c2, c3⟩ := placed_get (hv.kept hkp) hp
          cases ee
          obtain ⟨b', o', cap2, ee, r0, r1, r2, r3⟩ := placed_get (hv.kept hkp) ha
          cases ee
          have hbw : b < wr.heap.size := World.block_lt_of_cell? _ _ c0
          have hbw1 : b < wr.heap.size + 1 := by omega
          have HSELF : Hid (j = t → alM way a p = 0) := fun e => by
            subst e
            rw [ha] at hp
            cases hp
            exact al_self way a
          have HDX := dx_bd hao hpo
          have HFA : Hid (faM way a p = alM way a p + 2 * absM (acM way a p)) := show faM way a p = alM way a p + 2 * absM (acM way a p) from rfl
          have HY := @foc_yes l a p way j hp
          have HNN := @foc_no l a p way j hp
          rw [HF.out] at HY HNN
          have HYS : Hid (0 < alM way a p → (B = -1 ∨ faM way a p < M) → focK l a way (j + 1) = ((j : Int), faM way a p)) := HY
          have HNS : Hid (¬ (0 < alM way a p ∧ (B = -1 ∨ faM way a p < M)) → focK l a way (j + 1) = (B, M)) := HNN
          have HK : Hid (Kept w wr) := hkp
          have hat1 : (0 : Int) ≤ (t : Int) := by omega
          have hat2 : (t : Int) < (l.length : Int) := by omega
          have hao' := hao
          have hpo' := hpo
          obtain ⟨⟨a1, a2⟩, ⟨a3, a4⟩, ⟨a5, a6⟩, a7, a8⟩ := hao'
          obtain ⟨⟨p1, p2⟩, ⟨p3, p4⟩, ⟨p5, p6⟩, p7, p8⟩ := hpo'
          clear hkp hv hp HY HNN HF hao hpo ha
          have x1 : IntKind.i64.wrap (2 * p.1) = 2 * p.1 := IntWalk.i64_in _ (by omega)
          have x2 : IntKind.i64.wrap (2 * p.1 + p.2.2.1) = 2 * p.1 + p.2.2.1 := IntWalk.i64_in _ (by omega)
          have x3 : IntKind.i64.wrap (2 * a.1) = 2 * a.1 := IntWalk.i64_in _ (by omega)
          have x4 : IntKind.i64.wrap (2 * p.1 + p.2.2.1 - 2 * a.1) = 2 * p.1 + p.2.2.1 - 2 * a.1 := IntWalk.i64_in _ (by omega)
          have x5 : IntKind.i64.wrap (2 * p.1 + p.2.2.1 - 2 * a.1 - a.2.2.1) = dxM a p := IntWalk.i64_in _ (by omega)
          have y1 : IntKind.i64.wrap (2 * p.2.1) = 2 * p.2.1 := IntWalk.i64_in _ (by omega)
          have y2 : IntKind.i64.wrap (2 * p.2.1 + p.2.2.2) = 2 * p.2.1 + p.2.2.2 := IntWalk.i64_in _ (by omega)
          have y3 : IntKind.i64.wrap (2 * a.2.1) = 2 * a.2.1 := IntWalk.i64_in _ (by omega)
          have y4 : IntKind.i64.wrap (2 * p.2.1 + p.2.2.2 - 2 * a.2.1) = 2 * p.2.1 + p.2.2.2 - 2 * a.2.1 := IntWalk.i64_in _ (by omega)
          have y5 : IntKind.i64.wrap (2 * p.2.1 + p.2.2.2 - 2 * a.2.1 - a.2.2.2) = dyM a p := IntWalk.i64_in _ (by omega)
          generalize hdx : dxM a p = DX at *
          generalize hdy : dyM a p = DY at *
          have HX : Hid (dxM a p = DX ∧ dyM a p = DY) := ⟨hdx, hdy⟩
          clear hdx hdy a1 a2 a3 a4 a5 a6 a7 a8 p1 p2 p3 p4 p5 p6 p7 p8
          obtain ⟨⟨t1, t2⟩, t3, t4⟩ := HDX
          obtain rfl | rfl | rfl | rfl : way = 0 ∨ way = 1 ∨ way = 2 ∨ way = 3 := by omega
          · obtain ⟨AL, hAL⟩ : ∃ q, q = alM 0 a p := ⟨_, rfl⟩
            have hal : AL = -DX := by rw [hAL]; unfold alM; simp [HX.out.1]
            have hac : acM 0 a p = DY := by unfold acM; simp [HX.out.2]
            rw [← hAL] at HYS HNS HSELF HFA
            rw [hac] at HFA
            clear hAL hac
            have en : IntKind.i64.wrap (-DX) = AL := by rw [IntWalk.i64_in _ (by omega)]; omega
            have hab1 : -200000 ≤ AL ∧ AL ≤ 200000 := by omega
            clear hal
            have hab := abs_bd (x := DY) (B := 200000) (by omega)
            have ASZ : Hid (∀ W, Calls Try.prog 43 #[.int .i64 DY] W fun e w' => e = .returned (.int .i64 (absM DY)) ∧ w' = W) := fun W => sabs DY W (by omega)
            generalize absM DY = Q at *
            generalize faM 0 a p = FA at *
            have e1 : IntKind.i64.wrap (2 * Q) = 2 * Q := IntWalk.i64_in _ (by omega)
            have e2 : IntKind.i64.wrap (AL + 2 * Q) = FA := by rw [IntWalk.i64_in _ (by omega)]; exact HFA.out.symm
            have hfb : -1000000 ≤ FA ∧ FA ≤ 1000000 := by have := HFA.out; omega
            obtain ⟨a0, a1, a2, a3⟩ := a
            obtain ⟨p0, p1, p2, p3⟩ := p
            dsimp only at c0 c1 c2 c3 r0 r1 r2 r3 x1 x2 x3 x4 x5 y1 y2 y3 y4 y5
            have zw : ((0 : Int) == 0) = true := by decide
            repeat (first | go_values | go_skip | go_guarded | go_step | go_upon)
            go_quiet (fail)
            repeat (first | go_values | go_skip | go_guarded | go_step | go_upon)
            go_quiet (fail)
            by_cases q0 : j = t
            · have d0 : ((j : Int) != (t : Int)) = false := by simp [q0]
              have d0' : (j != t) = false := by simp [q0]
              have HN : Hid (focK l (a0, a1, a2, a3) 0 (j + 1) = (B, M)) := HNS.out (fun h => by have := HSELF.out q0; omega)
              clear q0
              repeat (first | (go_at_call 43; with_reducible refine (ASZ.out _).mono ?_; rintro e w3 ⟨rfl, hw3⟩; rw [hw3]; clear hw3 w3; dsimp only) | go_values | go_skip | go_guarded | go_step | go_upon)
              exact ⟨⟨j + 1, (B, M), hlt, by go_num, rfl, rfl, HN, hb1, hb2, (HK.out.alloc _).drewN _⟩, by simp [intOf]; omega⟩
            have d0 : ((j : Int) != (t : Int)) = true := by simp; omega
            have d0' : (j != t) = true := by simp [q0]
            clear q0
            by_cases q1 : 0 < AL
            · have d1 : decide (0 < AL) = true := decide_eq_true q1
              by_cases q2 : B = -1
              · have d2 : decide (B < 0) = true := decide_eq_true (by omega)
                have HN : Hid (focK l (a0, a1, a2, a3) 0 (j + 1) = ((j : Int), FA)) := HYS.out q1 (.inl q2)
                clear q2
                repeat (first | (go_at_call 43; with_reducible refine (ASZ.out _).mono ?_; rintro e w3 ⟨rfl, hw3⟩; rw [hw3]; clear hw3 w3; dsimp only) | go_values | go_skip | go_guarded | go_step | go_upon)
                exact ⟨⟨j + 1, ((j : Int), FA), hlt, by go_num, rfl, rfl, HN, by dsimp only; omega, by dsimp only; omega, (HK.out.alloc _).drewN _⟩, by simp [intOf]; omega⟩
              · have d2 : decide (B < 0) = false := decide_eq_false (by omega)
                by_cases q3 : FA < M
                · have d3 : decide (FA < M) = true := decide_eq_true q3
                  have HN : Hid (focK l (a0, a1, a2, a3) 0 (j + 1) = ((j : Int), FA)) := HYS.out q1 (.inr q3)
                  clear q2
                  repeat (first | (go_at_call 43; with_reducible refine (ASZ.out _).mono ?_; rintro e w3 ⟨rfl, hw3⟩; rw [hw3]; clear hw3 w3; dsimp only) | go_values | go_skip | go_guarded | go_step | go_upon)
                  exact ⟨⟨j + 1, ((j : Int), FA), hlt, by go_num, rfl, rfl, HN, by dsimp only; omega, by dsimp only; omega, (HK.out.alloc _).drewN _⟩, by simp [intOf]; omega⟩
                · have d3 : decide (FA < M) = false := decide_eq_false q3
                  have HN : Hid (focK l (a0, a1, a2, a3) 0 (j + 1) = (B, M)) := HNS.out (fun h => h.2.elim q2 q3)
                  clear q2
                  repeat (first | (go_at_call 43; with_reducible refine (ASZ.out _).mono ?_; rintro e w3 ⟨rfl, hw3⟩; rw [hw3]; clear hw3 w3; dsimp only) | go_values | go_skip | go_guarded | go_step | go_upon)
                  exact ⟨⟨j + 1, (B, M), hlt, by go_num, rfl, rfl, HN, hb1, hb2, (HK.out.alloc _).drewN _⟩, by simp [intOf]; omega⟩
            · have d1 : decide (0 < AL) = false := decide_eq_false q1
              have HN : Hid (focK l (a0, a1, a2, a3) 0 (j + 1) = (B, M)) := HNS.out (fun h => q1 h.1)
              repeat (first | (go_at_call 43; with_reducible refine (ASZ.out _).mono ?_; rintro e w3 ⟨rfl, hw3⟩; rw [hw3]; clear hw3 w3; dsimp only) | go_values | go_skip | go_guarded | go_step | go_upon)
              exact ⟨⟨j + 1, (B, M), hlt, by go_num, rfl, rfl, HN, hb1, hb2, (HK.out.alloc _).drewN _⟩, by simp [intOf]; omega⟩
          · obtain ⟨AL, hAL⟩ : ∃ q, q = alM 1 a p := ⟨_, rfl⟩
            have hal : AL = DX := by rw [hAL]; unfold alM; simp [HX.out.1]
            have hac : acM 1 a p = DY := by unfold acM; simp [HX.out.2]
            rw [← hAL] at HYS HNS HSELF HFA
            rw [hac] at HFA
            clear hAL hac
            subst hal
            have hab1 : -200000 ≤ AL ∧ AL ≤ 200000 := by omega
            have hab := abs_bd (x := DY) (B := 200000) (by omega)
            have ASZ : Hid (∀ W, Calls Try.prog 43 #[.int .i64 DY] W fun e w' => e = .returned (.int .i64 (absM DY)) ∧ w' = W) := fun W => sabs DY W (by omega)
            generalize absM DY = Q at *
            generalize faM 1 a p = FA at *
            have e1 : IntKind.i64.wrap (2 * Q) = 2 * Q := IntWalk.i64_in _ (by omega)
            have e2 : IntKind.i64.wrap (AL + 2 * Q) = FA := by rw [IntWalk.i64_in _ (by omega)]; exact HFA.out.symm
            have hfb : -1000000 ≤ FA ∧ FA ≤ 1000000 := by have := HFA.out; omega
            obtain ⟨a0, a1, a2, a3⟩ := a
            obtain ⟨p0, p1, p2, p3⟩ := p
            dsimp only at c0 c1 c2 c3 r0 r1 r2 r3 x1 x2 x3 x4 x5 y1 y2 y3 y4 y5
            have zw : ((1 : Int) == 0) = false := by decide
            repeat (first | go_values | go_skip | go_guarded | go_step | go_upon)
            go_quiet (fail)
            repeat (first | go_values | go_skip | go_guarded | go_step | go_upon)
            go_quiet (fail)
            by_cases q0 : j = t
            · have d0 : ((j : Int) != (t : Int)) = false := by simp [q0]
              have d0' : (j != t) = false := by simp [q0]
              have HN : Hid (focK l (a0, a1, a2, a3) 1 (j + 1) = (B, M)) := HNS.out (fun h => by have := HSELF.out q0; omega)
              clear q0
              repeat (first | (go_at_call 43; with_reducible refine (ASZ.out _).mono ?_; rintro e w3 ⟨rfl, hw3⟩; rw [hw3]; clear hw3 w3; dsimp only) | go_values | go_skip | go_guarded | go_step | go_upon)
              exact ⟨⟨j + 1, (B, M), hlt, by go_num, rfl, rfl, HN, hb1, hb2, (HK.out.alloc _).drewN _⟩, by simp [intOf]; omega⟩
            have d0 : ((j : Int) != (t : Int)) = true := by simp; omega
            have d0' : (j != t) = true := by simp [q0]
            clear q0
            by_cases q1 : 0 < AL
            · have d1 : decide (0 < AL) = true := decide_eq_true q1
              by_cases q2 : B = -1
              · have d2 : decide (B < 0) = true := decide_eq_true (by omega)
                have HN : Hid (focK l (a0, a1, a2, a3) 1 (j + 1) = ((j : Int), FA)) := HYS.out q1 (.inl q2)
                clear q2
                repeat (first | (go_at_call 43; with_reducible refine (ASZ.out _).mono ?_; rintro e w3 ⟨rfl, hw3⟩; rw [hw3]; clear hw3 w3; dsimp only) | go_values | go_skip | go_guarded | go_step | go_upon)
                exact ⟨⟨j + 1, ((j : Int), FA), hlt, by go_num, rfl, rfl, HN, by dsimp only; omega, by dsimp only; omega, (HK.out.alloc _).drewN _⟩, by simp [intOf]; omega⟩
              · have d2 : decide (B < 0) = false := decide_eq_false (by omega)
                by_cases q3 : FA < M
                · have d3 : decide (FA < M) = true := decide_eq_true q3
                  have HN : Hid (focK l (a0, a1, a2, a3) 1 (j + 1) = ((j : Int), FA)) := HYS.out q1 (.inr q3)
                  clear q2
                  repeat (first | (go_at_call 43; with_reducible refine (ASZ.out _).mono ?_; rintro e w3 ⟨rfl, hw3⟩; rw [hw3]; clear hw3 w3; dsimp only) | go_values | go_skip | go_guarded | go_step | go_upon)
                  exact ⟨⟨j + 1, ((j : Int), FA), hlt, by go_num, rfl, rfl, HN, by dsimp only; omega, by dsimp only; omega, (HK.out.alloc _).drewN _⟩, by simp [intOf]; omega⟩
                · have d3 : decide (FA < M) = false := decide_eq_false q3
                  have HN : Hid (focK l (a0, a1, a2, a3) 1 (j + 1) = (B, M)) := HNS.out (fun h => h.2.elim q2 q3)
                  clear q2
                  repeat (first | (go_at_call 43; with_reducible refine (ASZ.out _).mono ?_; rintro e w3 ⟨rfl, hw3⟩; rw [hw3]; clear hw3 w3; dsimp only) | go_values | go_skip | go_guarded | go_step | go_upon)
                  exact ⟨⟨j + 1, (B, M), hlt, by go_num, rfl, rfl, HN, hb1, hb2, (HK.out.alloc _).drewN _⟩, by simp [intOf]; omega⟩
            · have d1 : decide (0 < AL) = false := decide_eq_false q1
              have HN : Hid (focK l (a0, a1, a2, a3) 1 (j + 1) = (B, M)) := HNS.out (fun h => q1 h.1)
              repeat (first | (go_at_call 43; with_reducible refine (ASZ.out _).mono ?_; rintro e w3 ⟨rfl, hw3⟩; rw [hw3]; clear hw3 w3; dsimp only) | go_values | go_skip | go_guarded | go_step | go_upon)
              exact ⟨⟨j + 1, (B, M), hlt, by go_num, rfl, rfl, HN, hb1, hb2, (HK.out.alloc _).drewN _⟩, by simp [intOf]; omega⟩
          · obtain ⟨AL, hAL⟩ : ∃ q, q = alM 2 a p := ⟨_, rfl⟩
            have hal : AL = -DY := by rw [hAL]; unfold alM; simp [HX.out.2]
            have hac : acM 2 a p = DX := by unfold acM; simp [HX.out.1]
            rw [← hAL] at HYS HNS HSELF HFA
            rw [hac] at HFA
            clear hAL hac
            have en : IntKind.i64.wrap (-DY) = AL := by rw [IntWalk.i64_in _ (by omega)]; omega
            have hab1 : -200000 ≤ AL ∧ AL ≤ 200000 := by omega
            clear hal
            have hab := abs_bd (x := DX) (B := 200000) (by omega)
            have ASZ : Hid (∀ W, Calls Try.prog 43 #[.int .i64 DX] W fun e w' => e = .returned (.int .i64 (absM DX)) ∧ w' = W) := fun W => sabs DX W (by omega)
            generalize absM DX = Q at *
            generalize faM 2 a p = FA at *
            have e1 : IntKind.i64.wrap (2 * Q) = 2 * Q := IntWalk.i64_in _ (by omega)
            have e2 : IntKind.i64.wrap (AL + 2 * Q) = FA := by rw [IntWalk.i64_in _ (by omega)]; exact HFA.out.symm
            have hfb : -1000000 ≤ FA ∧ FA ≤ 1000000 := by have := HFA.out; omega
            obtain ⟨a0, a1, a2, a3⟩ := a
            obtain ⟨p0, p1, p2, p3⟩ := p
            dsimp only at c0 c1 c2 c3 r0 r1 r2 r3 x1 x2 x3 x4 x5 y1 y2 y3 y4 y5
            have zw : ((2 : Int) == 0) = false := by decide
            repeat (first | go_values | go_skip | go_guarded | go_step | go_upon)
            go_quiet (fail)
            repeat (first | go_values | go_skip | go_guarded | go_step | go_upon)
            go_quiet (fail)
            by_cases q0 : j = t
            · have d0 : ((j : Int) != (t : Int)) = false := by simp [q0]
              have d0' : (j != t) = false := by simp [q0]
              have HN : Hid (focK l (a0, a1, a2, a3) 2 (j + 1) = (B, M)) := HNS.out (fun h => by have := HSELF.out q0; omega)
              clear q0
              repeat (first | (go_at_call 43; with_reducible refine (ASZ.out _).mono ?_; rintro e w3 ⟨rfl, hw3⟩; rw [hw3]; clear hw3 w3; dsimp only) | go_values | go_skip | go_guarded | go_step | go_upon)
              exact ⟨⟨j + 1, (B, M), hlt, by go_num, rfl, rfl, HN, hb1, hb2, (HK.out.alloc _).drewN _⟩, by simp [intOf]; omega⟩
            have d0 : ((j : Int) != (t : Int)) = true := by simp; omega
            have d0' : (j != t) = true := by simp [q0]
            clear q0
            by_cases q1 : 0 < AL
            · have d1 : decide (0 < AL) = true := decide_eq_true q1
              by_cases q2 : B = -1
              · have d2 : decide (B < 0) = true := decide_eq_true (by omega)
                have HN : Hid (focK l (a0, a1, a2, a3) 2 (j + 1) = ((j : Int), FA)) := HYS.out q1 (.inl q2)
                clear q2
                repeat (first | (go_at_call 43; with_reducible refine (ASZ.out _).mono ?_; rintro e w3 ⟨rfl, hw3⟩; rw [hw3]; clear hw3 w3; dsimp only) | go_values | go_skip | go_guarded | go_step | go_upon)
                exact ⟨⟨j + 1, ((j : Int), FA), hlt, by go_num, rfl, rfl, HN, by dsimp only; omega, by dsimp only; omega, (HK.out.alloc _).drewN _⟩, by simp [intOf]; omega⟩
              · have d2 : decide (B < 0) = false := decide_eq_false (by omega)
                by_cases q3 : FA < M
                · have d3 : decide (FA < M) = true := decide_eq_true q3
                  have HN : Hid (focK l (a0, a1, a2, a3) 2 (j + 1) = ((j : Int), FA)) := HYS.out q1 (.inr q3)
                  clear q2
                  repeat (first | (go_at_call 43; with_reducible refine (ASZ.out _).mono ?_; rintro e w3 ⟨rfl, hw3⟩; rw [hw3]; clear hw3 w3; dsimp only) | go_values | go_skip | go_guarded | go_step | go_upon)
                  exact ⟨⟨j + 1, ((j : Int), FA), hlt, by go_num, rfl, rfl, HN, by dsimp only; omega, by dsimp only; omega, (HK.out.alloc _).drewN _⟩, by simp [intOf]; omega⟩
                · have d3 : decide (FA < M) = false := decide_eq_false q3
                  have HN : Hid (focK l (a0, a1, a2, a3) 2 (j + 1) = (B, M)) := HNS.out (fun h => h.2.elim q2 q3)
                  clear q2
                  repeat (first | (go_at_call 43; with_reducible refine (ASZ.out _).mono ?_; rintro e w3 ⟨rfl, hw3⟩; rw [hw3]; clear hw3 w3; dsimp only) | go_values | go_skip | go_guarded | go_step | go_upon)
                  exact ⟨⟨j + 1, (B, M), hlt, by go_num, rfl, rfl, HN, hb1, hb2, (HK.out.alloc _).drewN _⟩, by simp [intOf]; omega⟩
            · have d1 : decide (0 < AL) = false := decide_eq_false q1
              have HN : Hid (focK l (a0, a1, a2, a3) 2 (j + 1) = (B, M)) := HNS.out (fun h => q1 h.1)
              repeat (first | (go_at_call 43; with_reducible refine (ASZ.out _).mono ?_; rintro e w3 ⟨rfl, hw3⟩; rw [hw3]; clear hw3 w3; dsimp only) | go_values | go_skip | go_guarded | go_step | go_upon)
              exact ⟨⟨j + 1, (B, M), hlt, by go_num, rfl, rfl, HN, hb1, hb2, (HK.out.alloc _).drewN _⟩, by simp [intOf]; omega⟩
          · obtain ⟨AL, hAL⟩ : ∃ q, q = alM 3 a p := ⟨_, rfl⟩
            have hal : AL = DY := by rw [hAL]; unfold alM; simp [HX.out.2]
            have hac : acM 3 a p = DX := by unfold acM; simp [HX.out.1]
            rw [← hAL] at HYS HNS HSELF HFA
            rw [hac] at HFA
            clear hAL hac
            subst hal
            have hab1 : -200000 ≤ AL ∧ AL ≤ 200000 := by omega
            have hab := abs_bd (x := DX) (B := 200000) (by omega)
            have ASZ : Hid (∀ W, Calls Try.prog 43 #[.int .i64 DX] W fun e w' => e = .returned (.int .i64 (absM DX)) ∧ w' = W) := fun W => sabs DX W (by omega)
            generalize absM DX = Q at *
            generalize faM 3 a p = FA at *
            have e1 : IntKind.i64.wrap (2 * Q) = 2 * Q := IntWalk.i64_in _ (by omega)
            have e2 : IntKind.i64.wrap (AL + 2 * Q) = FA := by rw [IntWalk.i64_in _ (by omega)]; exact HFA.out.symm
            have hfb : -1000000 ≤ FA ∧ FA ≤ 1000000 := by have := HFA.out; omega
            obtain ⟨a0, a1, a2, a3⟩ := a
            obtain ⟨p0, p1, p2, p3⟩ := p
            dsimp only at c0 c1 c2 c3 r0 r1 r2 r3 x1 x2 x3 x4 x5 y1 y2 y3 y4 y5
            have zw : ((3 : Int) == 0) = false := by decide
            repeat (first | go_values | go_skip | go_guarded | go_step | go_upon)
            go_quiet (fail)
            repeat (first | go_values | go_skip | go_guarded | go_step | go_upon)
            go_quiet (fail)
            by_cases q0 : j = t
            · have d0 : ((j : Int) != (t : Int)) = false := by simp [q0]
              have d0' : (j != t) = false := by simp [q0]
              have HN : Hid (focK l (a0, a1, a2, a3) 3 (j + 1) = (B, M)) := HNS.out (fun h => by have := HSELF.out q0; omega)
              clear q0
              repeat (first | (go_at_call 43; with_reducible refine (ASZ.out _).mono ?_; rintro e w3 ⟨rfl, hw3⟩; rw [hw3]; clear hw3 w3; dsimp only) | go_values | go_skip | go_guarded | go_step | go_upon)
              exact ⟨⟨j + 1, (B, M), hlt, by go_num, rfl, rfl, HN, hb1, hb2, (HK.out.alloc _).drewN _⟩, by simp [intOf]; omega⟩
            have d0 : ((j : Int) != (t : Int)) = true := by simp; omega
            have d0' : (j != t) = true := by simp [q0]
            clear q0
            by_cases q1 : 0 < AL
            · have d1 : decide (0 < AL) = true := decide_eq_true q1
              by_cases q2 : B = -1
              · have d2 : decide (B < 0) = true := decide_eq_true (by omega)
                have HN : Hid (focK l (a0, a1, a2, a3) 3 (j + 1) = ((j : Int), FA)) := HYS.out q1 (.inl q2)
                clear q2
                repeat (first | (go_at_call 43; with_reducible refine (ASZ.out _).mono ?_; rintro e w3 ⟨rfl, hw3⟩; rw [hw3]; clear hw3 w3; dsimp only) | go_values | go_skip | go_guarded | go_step | go_upon)
                exact ⟨⟨j + 1, ((j : Int), FA), hlt, by go_num, rfl, rfl, HN, by dsimp only; omega, by dsimp only; omega, (HK.out.alloc _).drewN _⟩, by simp [intOf]; omega⟩
              · have d2 : decide (B < 0) = false := decide_eq_false (by omega)
                by_cases q3 : FA < M
                · have d3 : decide (FA < M) = true := decide_eq_true q3
                  have HN : Hid (focK l (a0, a1, a2, a3) 3 (j + 1) = ((j : Int), FA)) := HYS.out q1 (.inr q3)
                  clear q2
                  repeat (first | (go_at_call 43; with_reducible refine (ASZ.out _).mono ?_; rintro e w3 ⟨rfl, hw3⟩; rw [hw3]; clear hw3 w3; dsimp only) | go_values | go_skip | go_guarded | go_step | go_upon)
                  exact ⟨⟨j + 1, ((j : Int), FA), hlt, by go_num, rfl, rfl, HN, by dsimp only; omega, by dsimp only; omega, (HK.out.alloc _).drewN _⟩, by simp [intOf]; omega⟩
                · have d3 : decide (FA < M) = false := decide_eq_false q3
                  have HN : Hid (focK l (a0, a1, a2, a3) 3 (j + 1) = (B, M)) := HNS.out (fun h => h.2.elim q2 q3)
                  clear q2
                  repeat (first | (go_at_call 43; with_reducible refine (ASZ.out _).mono ?_; rintro e w3 ⟨rfl, hw3⟩; rw [hw3]; clear hw3 w3; dsimp only) | go_values | go_skip | go_guarded | go_step | go_upon)
                  exact ⟨⟨j + 1, (B, M), hlt, by go_num, rfl, rfl, HN, hb1, hb2, (HK.out.alloc _).drewN _⟩, by simp [intOf]; omega⟩
            · have d1 : decide (0 < AL) = false := decide_eq_false q1
              have HN : Hid (focK l (a0, a1, a2, a3) 3 (j + 1) = (B, M)) := HNS.out (fun h => q1 h.1)
              repeat (first | (go_at_call 43; with_reducible refine (ASZ.out _).mono ?_; rintro e w3 ⟨rfl, hw3⟩; rw [hw3]; clear hw3 w3; dsimp only) | go_values | go_skip | go_guarded | go_step | go_upon)
              exact ⟨⟨j + 1, (B, M), hlt, by go_num, rfl, rfl, HN, hb1, hb2, (HK.out.alloc _).drewN _⟩, by simp [intOf]; omega⟩
        · have hke : j = l.length := by omega
          subst hke
          have HK : Hid (Kept w wr) := hkp
          clear hkp hv
          repeat (first | go_values | go_skip | go_guarded | go_step | go_upon)
          go_ret2
          exact ⟨by rw [HF.out]; rfl, HK.out⟩

end Go.Proofs.Ytaofilinejanjaa
