/-
  The value of keys at a frame, as the program finds it.
-/
import Derived.Test.YtpnplfngglfpoaaBs11
namespace Go.Proofs.Ytpnplfngglfpoaa
open Go.ChangeShapes Go.WideShapes Go.ChangeAt Go.RowKit
set_option maxRecDepth 100000
set_option linter.unusedVariables false

set_option maxHeartbeats 2000000 in
theorem ivalof (b : Int) (ps : List KeyD) (f : Int) (v : Value) (w : World) (hv : KeyAt w v ps) (hP : KeysP b ps) (hb : b ≤ 60) :
    Calls Try.prog 56 #[v, .int .i64 f] w fun e w' => e = .returned (.int .i64 (atK ps f)) ∧ Kept w w' := by
  obtain ⟨c, hc⟩ := hP.isC f
  have hcl := hc.1
  have h0 := hP.1.1
  have h60 := hP.1.2
  rw [atK_eq hc]
  obtain ⟨ao, cap, hsl⟩ := row_nil hv
  subst hsl
  have BS : Hid (∀ W, Kept w W → Calls Try.prog 83 #[.slice ao ps.length cap, .int .i64 f, .func (.func 84) #[] #[]] W fun e w' => (∃ q, e = .returned (.tuple #[.int .i64 (c : Nat), .bool q])) ∧ Kept W w') := fun W k => bsearch ps f c _ W (hv.kept k) h60 hc
  by_cases c0 : c = 0
  · obtain ⟨p, hp⟩ : ∃ p, ps[0]? = some p := ⟨_, List.getElem?_eq_getElem h0⟩
    have ev : valC ps f c = p.2 := by unfold valC; rw [if_pos c0, keyAt_some hp]
    rw [ev]
    subst c0
    obtain ⟨bb, o, cap', e, q0, q1⟩ := key_get hv hp
    cases e
    obtain ⟨g, gv⟩ := p
    dsimp only at q0 q1 ⊢
    simp only [Nat.zero_mul, Nat.add_zero] at q0 q1
    go_enter Try.func56, Try.ntmps56
    go_wp2_with (go_at_call 83; refine (BS.out _ (But.refl _ _ _)).mono ?_; rintro e w' ⟨⟨q, rfl⟩, k1⟩; have q0 := Kept.cell k1 q0; have q1 := Kept.cell k1 q1; dsimp only)
    go_ret
    exact ⟨rfl, k1⟩
  obtain ⟨c', hc'⟩ : ∃ c', c = c' + 1 := ⟨c - 1, by omega⟩
  obtain ⟨p, hp⟩ : ∃ p, ps[c']? = some p := ⟨_, List.getElem?_eq_getElem (by omega)⟩
  obtain ⟨bb, o, cap', e, q0, q1⟩ := key_get hv hp
  cases e
  have ec : IntKind.i64.wrap ((c : Int) - 1) = (c' : Int) := by rw [IntWalk.i64_in _ (by omega)]; omega
  have z1 : (0 : Int) ≤ (c' : Int) := by omega
  have z2 : (c' : Int) < (ps.length : Int) := by omega
  have dc : ((c : Int) == 0) = false := by simpa using c0
  by_cases cl : c = ps.length
  · have ev : valC ps f c = p.2 := by
      unfold valC
      rw [if_neg c0, if_pos cl, show c - 1 = c' by omega, keyAt_some hp]
    rw [ev]
    obtain ⟨g, gv⟩ := p
    dsimp only at q0 q1 ⊢
    have dl : ((c : Int) == (ps.length : Int)) = true := beq_iff_eq.2 (by omega)
    have HC : Hid (c = c' + 1 ∧ c = ps.length) := ⟨hc', cl⟩
    clear hc' cl hp ev
    go_enter Try.func56, Try.ntmps56
    go_wp2_with (go_at_call 83; refine (BS.out _ (But.refl _ _ _)).mono ?_; rintro e w' ⟨⟨q, rfl⟩, k1⟩; have q0 := Kept.cell k1 q0; have q1 := Kept.cell k1 q1; dsimp only)
    go_ret
    exact ⟨rfl, k1⟩
  · obtain ⟨p2, hp2⟩ : ∃ p, ps[c]? = some p := ⟨_, List.getElem?_eq_getElem (by omega)⟩
    obtain ⟨bb, o, cap', e, r0, r1⟩ := key_get hv hp2
    cases e
    have ev : valC ps f c = btw p p2 f := by
      unfold valC
      rw [if_neg c0, if_neg cl, show c - 1 = c' by omega, keyAt_some hp, keyAt_some hp2]
    rw [ev]
    have l1 := hP.low hp
    have l2 := hP.low hp2
    have f1 : p.1 < f := (hc.2 _ _ hp).1 (by omega)
    have f2 : f ≤ p2.1 := Int.not_lt.1 (fun h => by have := (hc.2 _ _ hp2).2 h; omega)
    have BT : Hid (∀ W, Calls Try.prog 85 #[.agg #[.int .i64 p.1, .int .i64 p.2], .agg #[.int .i64 p2.1, .int .i64 p2.2], .int .i64 f] W fun e w' => e = .returned (.int .i64 (btw p p2 f)) ∧ Kept W w') :=
      fun W => ibtw p p2 f W ⟨l1.1, by omega⟩ ⟨l2.1, by omega⟩ l1.2.2 l2.2.2 f1 f2
    generalize btw p p2 f = R at BT
    obtain ⟨g, gv⟩ := p
    obtain ⟨g2, gv2⟩ := p2
    dsimp only at q0 q1 r0 r1 BT
    have dl : ((c : Int) == (ps.length : Int)) = false := beq_eq_false_iff_ne.2 (by omega)
    have z3 : (c : Int) < (ps.length : Int) := by omega
    have HC : Hid (c = c' + 1) := hc'
    clear hc' cl hp ev hp2 l1 l2 f1 f2 hc
    go_enter Try.func56, Try.ntmps56
    go_wp2_with (go_at_call 83; refine (BS.out _ (But.refl _ _ _)).mono ?_; rintro e w' ⟨⟨q, rfl⟩, k1⟩; have q0 := Kept.cell k1 q0; have q1 := Kept.cell k1 q1; have r0 := Kept.cell k1 r0; have r1 := Kept.cell k1 r1; dsimp only)
    have hgw : bb < w'.heap.size := World.block_lt_of_cell? _ _ r0
    repeat (first | go_values | go_skip | go_guarded | go_step | go_upon)
    refine wp_region_kept (by kernel_rfl) (by kernel_rfl) ?_
    have hcc := @KW.cell_eq
    repeat (go_big_quiet_step (first | (go_at_call 85; exact kw_call (BT.out _))))
    refine wpQuiet_nil ?_
    rintro _ ⟨⟨w5, k5⟩, rfl⟩
    clear hcc
    repeat (first | go_values | go_skip | go_guarded | go_step | go_upon)
    go_ret
    exact ⟨rfl, k1.trans k5⟩

end Go.Proofs.Ytpnplfngglfpoaa
