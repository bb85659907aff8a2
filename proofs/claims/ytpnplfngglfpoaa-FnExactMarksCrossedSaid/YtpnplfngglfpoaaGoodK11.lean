/-
  Whether keys are good, in the program and in its specification.
-/
import Derived.Test.YtpnplfngglfpoaaLeaf11
namespace Go.Proofs.Ytpnplfngglfpoaa
open Go.ChangeShapes Go.WideShapes Go.ChangeAt Go.RowKit

set_option maxRecDepth 100000
set_option linter.unusedVariables false
/-- Where the keys ahead of place k are good and the last one's frame is x. -/
def LastK (ps : List KeyD) (k : Nat) (x : Int) : Prop := (k = 0 → x = -1) ∧ ∀ j a, j + 1 = k → ps[j]? = some a → x = a.1 ∧ 0 ≤ x
theorem last_ok {b : Int} {ps : List KeyD} {k : Nat} {x f v : Int} (hp : ps[k]? = some (f, v)) (h : LastK ps k x) : KeyOk b ps k ↔ (x < f ∧ f < b ∧ ValP v) := by
  constructor
  · intro hk
    have h1 := hk _ hp
    refine ⟨?_, h1.1.2, h1.2.1⟩
    rcases k with _ | k
    · have := h.1 rfl
      have := h1.1.1
      dsimp only at this
      omega
    · have hl := (List.getElem?_eq_some_iff.1 hp).1
      obtain ⟨a, ha⟩ : ∃ a, ps[k]? = some a := ⟨_, List.getElem?_eq_getElem (by omega)⟩
      have h2 := h1.2.2 a (by omega) (by simpa using ha)
      have h3 := (h.2 k a rfl ha).1
      dsimp only at h2
      omega
  · rintro ⟨h1, h2, h3⟩ y hy
    rw [hp] at hy
    cases hy
    refine ⟨⟨?_, h2⟩, h3, fun a h0 ha => ?_⟩
    · rcases k with _ | k
      · have := h.1 rfl
        omega
      · have hl := (List.getElem?_eq_some_iff.1 hp).1
        obtain ⟨a, ha⟩ : ∃ a, ps[k]? = some a := ⟨_, List.getElem?_eq_getElem (by omega)⟩
        have h3 := (h.2 k a rfl ha).2
        omega
    · have := (h.2 (k - 1) a (by omega) ha).1
      dsimp only
      omega
theorem last_next {b : Int} {ps : List KeyD} {k : Nat} {f v : Int} (hp : ps[k]? = some (f, v)) (h : KeyOk b ps k) : LastK ps (k + 1) f := by
  refine ⟨fun h => by omega, fun j a hj ha => ?_⟩
  have : j = k := by omega
  subst this
  rw [hp] at ha
  cases ha
  exact ⟨rfl, (h _ hp).1.1⟩
set_option maxHeartbeats 2000000 in
theorem ikeys (b : Int) (ps : List KeyD) (v : Value) (w : World) (hv : KeyAt w v ps) (hb : b ≤ 60) (hn : ps.length ≤ 9000000000000000000) :
    Calls Try.prog 54 #[v, .int .i64 b] w fun e w' => e = .returned (.bool (decide (KeysP b ps))) ∧ Kept w w' := by
  obtain ⟨ao, cap, hsl⟩ := row_nil hv
  subst hsl
  go_enter Try.func54, Try.ntmps54
  go_wp2
  go_loopw [5, 10] (fun la i wr => ∃ (k : Nat) (x : Int), k ≤ ps.length ∧ la = .int .i64 x ∧ i = .int .i64 k ∧ Hid ((∀ j, j < k → KeyOk b ps j) ∧ LastK ps k x) ∧ Kept w wr) (fun _ i _ => ps.length - (intOf i).toNat)
  case atStart => exact ⟨0, -1, by omega, rfl, rfl, (⟨fun j hj => by omega, fun _ => rfl, fun j a hj => by omega⟩ : (∀ j, j < 0 → KeyOk b ps j) ∧ LastK ps 0 (-1)), But.refl _ _ _⟩
  case round =>
    obtain ⟨j, x, hk, rfl, rfl, HB, hkp⟩ := hrel
    by_cases hlt : j < ps.length
    · obtain ⟨p, hp⟩ : ∃ p, ps[j]? = some p := ⟨_, List.getElem?_eq_getElem hlt⟩
      obtain ⟨bb, o, cap', e, c0, c1⟩ := key_get (hv.kept hkp) hp
      cases e
      obtain ⟨f, vv⟩ := p
      dsimp only at c0 c1
      have hok := last_ok (b := b) hp HB.out.2
      have HO : Hid (KeyOk b ps j ↔ (x < f ∧ f < b ∧ ValP vv)) := hok
      have HK : Hid (Kept w wr) := hkp
      have HP : Hid (ps[j]? = some (f, vv)) := hp
      clear hok hkp hp
      have NO : Hid (¬ (x < f ∧ f < b ∧ ValP vv) → decide (KeysP b ps) = false) := fun h => decide_eq_false (fun h' => h (HO.out.1 (h'.2 j hlt)))
      by_cases h1 : f ≤ x
      · have d1 : decide (f ≤ x) = true := decide_eq_true h1
        go_wp2
        go_ret
        exact ⟨ret_boolG (NO.out (by omega)).symm, HK.out.trans (by (repeat (first | with_reducible exact But.refl _ _ _ | with_reducible apply But.drewN | with_reducible apply But.drew | with_reducible apply But.alloc | (with_reducible refine But.setNew ?_ (by simp +arith) _))))⟩
      have d1 : decide (f ≤ x) = false := decide_eq_false h1
      by_cases h2 : b ≤ f
      · have d2 : decide (b ≤ f) = true := decide_eq_true h2
        go_wp2
        go_ret
        exact ⟨ret_boolG (NO.out (by omega)).symm, HK.out.trans (by (repeat (first | with_reducible exact But.refl _ _ _ | with_reducible apply But.drewN | with_reducible apply But.drew | with_reducible apply But.alloc | (with_reducible refine But.setNew ?_ (by simp +arith) _))))⟩
      have d2 : decide (b ≤ f) = false := decide_eq_false h2
      rcases (Decidable.em (ValP vv)).symm with h3 | h3
      · have d3 : decide (ValP vv) = false := decide_eq_false h3
        go_wp2_with (go_at_call 82; refine (ival _ _).mono ?_; rw [d3]; rintro e w' ⟨rfl, rfl⟩)
        go_ret
        exact ⟨ret_boolG (NO.out (fun h => h3 h.2.2)).symm, HK.out.trans (by (repeat (first | with_reducible exact But.refl _ _ _ | with_reducible apply But.drewN | with_reducible apply But.drew | with_reducible apply But.alloc | (with_reducible refine But.setNew ?_ (by simp +arith) _))))⟩
      · have d3 : decide (ValP vv) = true := decide_eq_true h3
        have ok := HO.out.2 ⟨by omega, by omega, h3⟩
        have HK' : Hid (KeyOk b ps j) := ok
        clear ok
        go_wp2_with (go_at_call 82; refine (ival _ _).mono ?_; rw [d3]; rintro e w' ⟨rfl, rfl⟩)
        have I : (∀ i, i < j + 1 → KeyOk b ps i) ∧ LastK ps (j + 1) f := ⟨key_more HB.out.1 HK'.out, last_next HP.out HK'.out⟩
        exact ⟨⟨j + 1, f, hlt, rfl, by go_num, I, HK.out.trans (by (repeat (first | with_reducible exact But.refl _ _ _ | with_reducible apply But.drewN | with_reducible apply But.drew | with_reducible apply But.alloc | (with_reducible refine But.setNew ?_ (by simp +arith) _))))⟩, by simp [intOf]; omega⟩
    · have hke : j = ps.length := by omega
      subst hke
      have key : decide (KeysP b ps) = decide (0 < ps.length) := by
        rw [Bool.eq_iff_iff, decide_eq_true_iff, decide_eq_true_iff]
        exact ⟨fun h => h.1.1, fun h => ⟨⟨h, keys_few hb HB.out.1⟩, HB.out.1⟩⟩
      by_cases h0 : 0 < ps.length
      · have d1 : decide (0 < ps.length) = true := decide_eq_true h0
        have d2 : decide (0 < (ps.length : Int)) = true := by simp; omega
        go_wp2
        go_ret
        exact ⟨ret_boolG (key.trans d1).symm, hkp⟩
      · have d1 : decide (0 < ps.length) = false := decide_eq_false h0
        have d2 : decide (0 < (ps.length : Int)) = false := decide_eq_false (by omega)
        go_wp2
        go_ret
        exact ⟨ret_boolG (key.trans d1).symm, hkp⟩

set_option maxHeartbeats 4000000 in
theorem skeys (b : Int) (ps : List KeyD) (v : Value) (w : World) (hv : KeyAt w v ps) (hb : b ≤ 60) (hb' : -60 ≤ b) (hn : ps.length ≤ 9000000000000000000) :
    Calls Try.prog 57 #[v, .int .i64 b] w fun e w' => e = .returned (.bool (decide (KeysP b ps))) ∧ Kept w w' := by
  obtain ⟨ao, cap, hsl⟩ := row_nil hv
  subst hsl
  by_cases hc : ps.length < 1 ∨ 60 < ps.length
  · have key : decide (KeysP b ps) = false := decide_eq_false (fun h => by have := h.1; omega)
    rw [key]
    go_enter Try.func57, Try.ntmps57
    go_wp2
    all_goals
      first | (exfalso; omega) | skip
    all_goals
      go_ret
      exact ⟨rfl, But.refl _ _ _⟩
  · have c1 : decide ((ps.length : Int) < 1) = false := by simp; omega
    have c2 : decide (60 < (ps.length : Int)) = false := by simp; omega
    have eb : IntKind.i64.wrap (b - 1) = b - 1 := IntWalk.i64_in _ (by omega)
    go_enter Try.func57, Try.ntmps57
    go_wp2
    go_loopw [17] (fun i wr => ∃ (k : Nat), k ≤ ps.length ∧ i = .int .i64 k ∧ Hid (∀ j, j < k → KeyOk b ps j) ∧ Kept w wr) (fun i _ => ps.length - (intOf i).toNat)
    case atStart => exact ⟨0, by omega, rfl, (fun j hj => by omega : ∀ j, j < 0 → KeyOk b ps j), But.refl _ _ _⟩
    case round =>
      obtain ⟨j, hk, rfl, HB, hkp⟩ := hrel
      by_cases hlt : j < ps.length
      · obtain ⟨p, hp⟩ : ∃ p, ps[j]? = some p := ⟨_, List.getElem?_eq_getElem hlt⟩
        have hv1 := hv.kept hkp
        obtain ⟨bb, o, cap', e, q0, q1⟩ := key_get hv1 hp
        cases e
        obtain ⟨f, vv⟩ := p
        dsimp only at q0 q1
        have hgw : bb < wr.heap.size := World.block_lt_of_cell? _ _ q0
        have HK : Hid (Kept w wr) := hkp
        have HP : Hid (ps[j]? = some (f, vv)) := hp
        have NO : Hid (¬ KeyOk b ps j → decide (KeysP b ps) = false) := fun h => decide_eq_false (fun h' => h (h'.2 j hlt))
        rcases (Decidable.em (0 ≤ f ∧ f ≤ b - 1)).symm with h1 | h1
        · have d1 : decide (0 ≤ f ∧ f ≤ b - 1) = false := decide_eq_false h1
          clear hp hkp hv1 hv
          repeat (first | go_values | go_skip | go_guarded | go_step | go_upon)
          refine wp_region_kept (by kernel_rfl) (by kernel_rfl) ?_
          have hcc := @KW.cell_eq
          repeat (go_big_quiet_step (first | (go_at_call 52; exact kw_same (calls_bool d1 (sIn _ _ _ _)))))
          refine wpQuiet_nil ?_
          rintro _ ⟨⟨w5, k5⟩, rfl⟩
          clear hcc
          repeat (first | go_values | go_skip | go_guarded | go_step | go_upon)
          go_ret
          exact ⟨ret_boolG (NO.out (fun h => h1 (by have := (h _ HP.out).1; dsimp only at this; omega))).symm, (HK.out.trans (by (repeat (first | with_reducible exact But.refl _ _ _ | with_reducible apply But.drewN | with_reducible apply But.drew | with_reducible apply But.alloc | (with_reducible refine But.setNew ?_ (by simp +arith) _))))).trans k5⟩
        have d1 : decide (0 ≤ f ∧ f ≤ b - 1) = true := decide_eq_true h1
        rcases (Decidable.em (ValP vv)).symm with h3 | h3
        · have d3 : decide (ValP vv) = false := decide_eq_false h3
          clear hp hkp hv1 hv
          repeat (first | go_values | go_skip | go_guarded | go_step | go_upon)
          refine wp_region_kept (by kernel_rfl) (by kernel_rfl) ?_
          have hcc := @KW.cell_eq
          repeat (go_big_quiet_step (first | (go_at_call 52; exact kw_same (calls_bool d1 (sIn _ _ _ _))) | (go_at_call 73; exact kw_same (calls_bool d3 (sval _ _)))))
          refine wpQuiet_nil ?_
          rintro _ ⟨⟨w5, k5⟩, rfl⟩
          clear hcc
          repeat (first | go_values | go_skip | go_guarded | go_step | go_upon)
          go_ret
          exact ⟨ret_boolG (NO.out (fun h => h3 (h _ HP.out).2.1)).symm, (HK.out.trans (by (repeat (first | with_reducible exact But.refl _ _ _ | with_reducible apply But.drewN | with_reducible apply But.drew | with_reducible apply But.alloc | (with_reducible refine But.setNew ?_ (by simp +arith) _))))).trans k5⟩
        have d3 : decide (ValP vv) = true := decide_eq_true h3
        by_cases h0 : 0 < j
        · obtain ⟨j', hj'⟩ : ∃ j', j = j' + 1 := ⟨j - 1, by omega⟩
          obtain ⟨a, hq⟩ : ∃ b, ps[j']? = some b := ⟨_, List.getElem?_eq_getElem (by omega)⟩
          obtain ⟨bb2, o2, cap2, e2, r0, r1⟩ := key_get hv1 hq
          cases e2
          obtain ⟨g, gv⟩ := a
          dsimp only at r0 r1
          have dj : decide (0 < j) = true := decide_eq_true h0
          have ej : IntKind.i64.wrap ((j : Int) - 1) = (j' : Int) := by rw [IntWalk.i64_in _ (by omega)]; omega
          have z1 : (0 : Int) ≤ (j' : Int) := by omega
          have z2 : (j' : Int) < (ps.length : Int) := by omega
          have hoff : KeyOk b ps j ↔ g < f := by
            constructor
            · intro h
              exact (h _ hp).2.2 (g, gv) h0 (by rw [hj']; simpa using hq)
            · intro h y hy
              rw [hp] at hy
              cases hy
              refine ⟨⟨h1.1, by have := h1.2; dsimp only; omega⟩, h3, fun a _ ha' => ?_⟩
              rw [hj'] at ha'
              simp only [Nat.add_sub_cancel] at ha'
              rw [hq] at ha'
              cases ha'
              exact h
          have HO : Hid (KeyOk b ps j ↔ g < f) := hoff
          clear hoff hj' hp hq hkp hv1 hv
          by_cases hg : f ≤ g
          · have dg : decide (f ≤ g) = true := decide_eq_true hg
            repeat (first | go_values | go_skip | go_guarded | go_step | go_upon)
            refine wp_region_kept (by kernel_rfl) (by kernel_rfl) ?_
            have hcc := @KW.cell_eq
            repeat (go_big_quiet_step (first | (go_at_call 52; exact kw_same (calls_bool d1 (sIn _ _ _ _))) | (go_at_call 73; exact kw_same (calls_bool d3 (sval _ _)))))
            refine wpQuiet_nil ?_
            rintro _ ⟨⟨w5, k5⟩, rfl⟩
            clear hcc
            repeat (first | go_values | go_skip | go_guarded | go_step | go_upon)
            go_ret
            exact ⟨ret_boolG (NO.out (fun h => by have := HO.out.1 h; omega)).symm, (HK.out.trans (by (repeat (first | with_reducible exact But.refl _ _ _ | with_reducible apply But.drewN | with_reducible apply But.drew | with_reducible apply But.alloc | (with_reducible refine But.setNew ?_ (by simp +arith) _))))).trans k5⟩
          · have dg : decide (f ≤ g) = false := decide_eq_false hg
            repeat (first | go_values | go_skip | go_guarded | go_step | go_upon)
            refine wp_region_kept (by kernel_rfl) (by kernel_rfl) ?_
            have hcc := @KW.cell_eq
            repeat (go_big_quiet_step (first | (go_at_call 52; exact kw_same (calls_bool d1 (sIn _ _ _ _))) | (go_at_call 73; exact kw_same (calls_bool d3 (sval _ _)))))
            refine wpQuiet_nil ?_
            rintro _ ⟨⟨w5, k5⟩, rfl⟩
            clear hcc
            repeat (first | go_values | go_skip | go_guarded | go_step | go_upon)
            clear dj
            have I : ∀ i, i < j + 1 → KeyOk b ps i := key_more HB.out (HO.out.2 (by omega))
            exact ⟨⟨j + 1, hlt, by go_num, I, (HK.out.trans (by (repeat (first | with_reducible exact But.refl _ _ _ | with_reducible apply But.drewN | with_reducible apply But.drew | with_reducible apply But.alloc | (with_reducible refine But.setNew ?_ (by simp +arith) _))))).trans k5⟩, by simp [intOf]; omega⟩
        · have dj : decide (0 < j) = false := decide_eq_false h0
          have hok : KeyOk b ps j := fun y hy => by
            rw [hp] at hy
            cases hy
            exact ⟨⟨h1.1, by have := h1.2; dsimp only; omega⟩, h3, fun a h => by omega⟩
          have HO : Hid (KeyOk b ps j) := hok
          clear hok h0 hp hkp hv1 hv
          repeat (first | go_values | go_skip | go_guarded | go_step | go_upon)
          refine wp_region_kept (by kernel_rfl) (by kernel_rfl) ?_
          have hcc := @KW.cell_eq
          repeat (go_big_quiet_step (first | (go_at_call 52; exact kw_same (calls_bool d1 (sIn _ _ _ _))) | (go_at_call 73; exact kw_same (calls_bool d3 (sval _ _)))))
          refine wpQuiet_nil ?_
          rintro _ ⟨⟨w5, k5⟩, rfl⟩
          clear hcc
          repeat (first | go_values | go_skip | go_guarded | go_step | go_upon)
          clear dj
          have I : ∀ i, i < j + 1 → KeyOk b ps i := key_more HB.out HO.out
          exact ⟨⟨j + 1, hlt, by go_num, I, (HK.out.trans (by (repeat (first | with_reducible exact But.refl _ _ _ | with_reducible apply But.drewN | with_reducible apply But.drew | with_reducible apply But.alloc | (with_reducible refine But.setNew ?_ (by simp +arith) _))))).trans k5⟩, by simp [intOf]; omega⟩
      · have hke : j = ps.length := by omega
        subst hke
        go_wp2
        go_ret
        exact ⟨ret_boolG (decide_eq_true ⟨by omega, HB.out⟩).symm, hkp⟩

end Go.Proofs.Ytpnplfngglfpoaa
