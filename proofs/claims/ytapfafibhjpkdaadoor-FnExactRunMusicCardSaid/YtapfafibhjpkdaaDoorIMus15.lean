/-
  Good music in the program.
-/
import Derived.Test.YtapfafibhjpkdaaDoorSMus15
import Derived.Test.YtapfafibhjpkdaaDoorSecGs15
namespace Go.Proofs.YtapfafibhjpkdaaDoor
open Go.ChangeShapes Go.WideShapes Go.ChangeAt Go.RowKit

set_option maxRecDepth 100000
set_option linter.unusedVariables false

set_option maxHeartbeats 8000000 in
theorem imusic (l : List SectionD) (ao : Option Addr) (cap : Nat) (m0 : ByteArray) (m1 : Int) (m2 : ByteArray) (w : World) (hv : SecsAt w (.slice ao l.length cap) l) (hcap : l.length ≤ cap ∧ cap ≤ 9223372036854775807) (hn : secsCost l ≤ 1048576) :
    Calls Tryd.prog 23 #[.slice ao l.length cap, .agg #[.string m0, .int .i64 m1, .string m2]] w fun e w' => e = .returned (.bool (dec (MusicP l (m0, m1, m2)))) ∧ Kept w w' := by
  have K0 : Kept w (w.alloc (.cells #[.string m0, .int .i64 m1, .string m2] 27)) := (But.refl _ _ _).alloc _
  have hln : l.length ≤ 1048576 := by unfold secsCost at hn; omega
  have NO : Hid (¬ MusicP l (m0, m1, m2) → dec (MusicP l (m0, m1, m2)) = false) := dec_no
  have YES : Hid (MusicP l (m0, m1, m2) → dec (MusicP l (m0, m1, m2)) = true) := dec_yes
  generalize dec (MusicP l (m0, m1, m2)) = R at *
  have HF := ifind l m0 _ _ (hv.kept K0) hln
  unfold FindE at HF
  have hE := emptyL m2
  cases hq : fstS l m0 with
  | none =>
    rw [hq] at HF
    unfold zsec at HF
    have hR := NO.out (fun h => by obtain ⟨_, k, d, h4, _⟩ := h; dsimp only at h4; rw [hq] at h4; cases h4)
    subst hR
    cases q1 : dec (SecsP l)
    all_goals
      go_enter Tryd.func23, Tryd.ntmps23
      repeat (first | go_values | go_skip | go_guarded | go_step | go_upon)
      go_at_call 33
      refine HF.mono ?_
      rintro e w1 ⟨rfl, k1⟩
      have K1 := K0.trans k1
      have L0 := (Loc.new w [.string m0, .int .i64 m1, .string m2] 27).kept k1
      (try dsimp only)
      repeat (first | go_values | go_skip | go_guarded | go_step | go_upon)
      go_at_call 34
      refine (igsecs l ao cap _ (hv.kept (K1.alloc _)) hcap hn).mono ?_
      rintro e w2 ⟨rfl, k2⟩
      rw [q1]
      have L2 := (L0.alloc (.cells #[.string ⟨#[]⟩, .int .i64 0, .slice none 0 0, .string ⟨#[]⟩] 46)).kept k2
      have M2 := (Loc.new w1 [.string ⟨#[]⟩, .int .i64 0, .slice none 0 0, .string ⟨#[]⟩] 46).kept k2
      have g0 := L2.cell 0 rfl
      have g1 := L2.cell 1 rfl
      have g2 := L2.cell 2 rfl
      have h0 := M2.cell 0 rfl
      have h1 := M2.cell 1 rfl
      have HK2 : Hid (Kept w w2) := (K1.alloc _).trans k2
      have hv2 := hv.kept HK2.out
      clear K0 k1 K1 L0 k2 L2 M2 hv
      dsimp only
      repeat (first | go_values | go_skip | go_guarded | go_step | go_upon)
      go_ret
      exact ⟨rfl, HK2.out⟩
  | some k =>
    rw [hq] at HF
    obtain ⟨d, hd, _⟩ := fst_get hq
    cases q1 : dec (SecsP l) with
    | false =>
      have hR := NO.out (fun h => of_dec_no q1 h.1)
      subst hR
      have hb1 : True := trivial
      have HIF : True := trivial
      go_enter Tryd.func23, Tryd.ntmps23
      repeat (first | go_values | go_skip | go_guarded | go_step | go_upon)
      go_at_call 33
      refine HF.mono ?_
      rintro e w1 ⟨⟨d', s, h1, h2, rfl⟩, k1⟩
      rw [hd] at h1
      cases h1
      obtain ⟨a3, p3, hsl⟩ := row_nil h2
      subst hsl
      obtain ⟨d0, d1, d2, d3⟩ := d
      (try dsimp only at hb1); (try dsimp only at HIF); (try dsimp only)
      have K1 := K0.trans k1
      have L0 := (Loc.new w [.string m0, .int .i64 m1, .string m2] 27).kept k1
      (try dsimp only)
      repeat (first | go_values | go_skip | go_guarded | go_step | go_upon)
      go_at_call 34
      refine (igsecs l ao cap _ (hv.kept (K1.alloc _)) hcap hn).mono ?_
      rintro e w2 ⟨rfl, k2⟩
      rw [q1]
      have L2 := (L0.alloc (.cells #[.string d0, .int .i64 d1, .slice a3 d2.length p3, .string d3] 46)).kept k2
      have M2 := (Loc.new w1 [.string d0, .int .i64 d1, .slice a3 d2.length p3, .string d3] 46).kept k2
      have g0 := L2.cell 0 rfl
      have g1 := L2.cell 1 rfl
      have g2 := L2.cell 2 rfl
      have h0 := M2.cell 0 rfl
      have h1 := M2.cell 1 rfl
      have HK2 : Hid (Kept w w2) := (K1.alloc _).trans k2
      have hv2 := hv.kept HK2.out
      clear K0 k1 K1 L0 k2 L2 M2 hv
      dsimp only
      repeat (first | go_values | go_skip | go_guarded | go_step | go_upon)
      go_ret
      exact ⟨rfl, HK2.out⟩
    | true =>
      have hS := of_dec q1
      have hiff : Hid (MusicP l (m0, m1, m2) ↔ (0 ≤ m1 ∧ m1 < d.2.1) ∧ (emptyB m2 = true ∨ hasB l m2 = true)) := mus_iff hS hq hd
      have hkl : k < l.length := (List.getElem?_eq_some_iff.1 hd).1
      have hb1 := ((hS.2 k hkl) d hd).1.2.1
      have HIF : Hid (MusicP l (m0, m1, m2) ↔ (0 ≤ m1 ∧ m1 < d.2.1) ∧ (emptyB m2 = true ∨ hasB l m2 = true)) := hiff
      clear hiff
      go_enter Tryd.func23, Tryd.ntmps23
      repeat (first | go_values | go_skip | go_guarded | go_step | go_upon)
      go_at_call 33
      refine HF.mono ?_
      rintro e w1 ⟨⟨d', s, h1, h2, rfl⟩, k1⟩
      rw [hd] at h1
      cases h1
      obtain ⟨a3, p3, hsl⟩ := row_nil h2
      subst hsl
      obtain ⟨d0, d1, d2, d3⟩ := d
      (try dsimp only at hb1); (try dsimp only at HIF); (try dsimp only)
      have K1 := K0.trans k1
      have L0 := (Loc.new w [.string m0, .int .i64 m1, .string m2] 27).kept k1
      (try dsimp only)
      repeat (first | go_values | go_skip | go_guarded | go_step | go_upon)
      go_at_call 34
      refine (igsecs l ao cap _ (hv.kept (K1.alloc _)) hcap hn).mono ?_
      rintro e w2 ⟨rfl, k2⟩
      rw [q1]
      have L2 := (L0.alloc (.cells #[.string d0, .int .i64 d1, .slice a3 d2.length p3, .string d3] 46)).kept k2
      have M2 := (Loc.new w1 [.string d0, .int .i64 d1, .slice a3 d2.length p3, .string d3] 46).kept k2
      have g0 := L2.cell 0 rfl
      have g1 := L2.cell 1 rfl
      have g2 := L2.cell 2 rfl
      have h0 := M2.cell 0 rfl
      have h1 := M2.cell 1 rfl
      have HK2 : Hid (Kept w w2) := (K1.alloc _).trans k2
      have hv2 := hv.kept HK2.out
      clear K0 k1 K1 L0 k2 L2 M2 hv
      dsimp only
      rcases (Decidable.em (0 ≤ m1)).symm with h4 | h4
      · have e4 : decide (0 ≤ m1) = false := decide_eq_false h4
        have hR := NO.out (fun h => h4 (HIF.out.1 h).1.1)
        subst hR
        repeat (first | go_values | go_skip | go_guarded | go_step | go_upon)
        go_ret
        exact ⟨rfl, HK2.out⟩
      have e4 : decide (0 ≤ m1) = true := decide_eq_true h4
      rcases (Decidable.em (m1 < d1)).symm with h5 | h5
      · have e5 : decide (m1 < d1) = false := decide_eq_false h5
        have hR := NO.out (fun h => h5 (HIF.out.1 h).1.2)
        subst hR
        repeat (first | go_values | go_skip | go_guarded | go_step | go_upon)
        go_ret
        exact ⟨rfl, HK2.out⟩
      have e5 : decide (m1 < d1) = true := decide_eq_true h5
      cases q5 : emptyB m2 with
      | true =>
        rw [q5] at hE
        have hR := YES.out (HIF.out.2 ⟨⟨h4, h5⟩, .inl q5⟩)
        subst hR
        repeat (first | go_values | go_skip | go_guarded | go_step | go_upon)
        go_ret
        exact ⟨rfl, HK2.out⟩
      | false =>
        rw [q5] at hE
        cases q6 : hasB l m2 with
        | true =>
          have hR := YES.out (HIF.out.2 ⟨⟨h4, h5⟩, .inr q6⟩)
          subst hR
          repeat (first | (go_at_call 35; refine (iis l m2 _ _ hv2 hln).mono ?_; rintro e w3 ⟨rfl, k3⟩; rw [q6]; dsimp only) | go_values | go_skip | go_guarded | go_step | go_upon)
          go_ret
          exact ⟨rfl, HK2.out.trans k3⟩
        | false =>
          have hR := NO.out (fun h => by rcases (HIF.out.1 h).2 with h | h <;> simp [q5, q6] at h)
          subst hR
          repeat (first | (go_at_call 35; refine (iis l m2 _ _ hv2 hln).mono ?_; rintro e w3 ⟨rfl, k3⟩; rw [q6]; dsimp only) | go_values | go_skip | go_guarded | go_step | go_upon)
          go_ret
          exact ⟨rfl, HK2.out.trans k3⟩

end Go.Proofs.YtapfafibhjpkdaaDoor
