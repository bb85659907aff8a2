/-
  The place of a frame among keys, by halves.
-/
import Derived.Test.YtpnplfngglfpoaaLeaf11
namespace Go.Proofs.Ytpnplfngglfpoaa
open Go.ChangeShapes Go.WideShapes Go.ChangeAt Go.RowKit

set_option maxRecDepth 100000
set_option linter.unusedVariables false
set_option maxHeartbeats 2000000 in
theorem bsearch (ps : List KeyD) (f : Int) (c : Nat) (v : Value) (w : World) (hv : KeyAt w v ps) (hn : ps.length ≤ 60) (hc : IsC ps f c) :
    Calls Try.prog 83 #[v, .int .i64 f, .func (.func 84) #[] #[]] w fun e w' => (∃ q, e = .returned (.tuple #[.int .i64 (c : Nat), .bool q])) ∧ Kept w w' := by
  obtain ⟨ao, cap, hsl⟩ := row_nil hv
  subst hsl
  have hcl := hc.1
  have HC : Hid (∀ j k, ps[j]? = some k → (j < c ↔ k.1 < f)) := hc.2
  clear hc
  go_enter Try.func83, Try.ntmps83
  go_wp2
  go_loopw [9, 10] (fun s9 s10 wr => ∃ lo hi : Nat, s9 = .int .i64 lo ∧ s10 = .int .i64 hi ∧ lo ≤ c ∧ c ≤ hi ∧ hi ≤ ps.length ∧ Kept w wr) (fun a b _ => (intOf b).toNat - (intOf a).toNat)
  case atStart => exact ⟨0, ps.length, rfl, rfl, Nat.zero_le _, hcl, Nat.le_refl _, But.refl _ _ _⟩
  case round =>
    obtain ⟨lo, hi, rfl, rfl, h1, h2, h3, hkp⟩ := hrel
    by_cases hlt : lo < hi
    · obtain ⟨p, hp⟩ : ∃ p, ps[(lo + hi) / 2]? = some p := ⟨_, List.getElem?_eq_getElem (by omega)⟩
      obtain ⟨bb, o, cap', e, q0, q1⟩ := key_get (hv.kept hkp) hp
      cases e
      have hcm := HC.out _ _ hp
      have HM : Hid ((lo + hi) / 2 < c ↔ p.1 < f) := hcm
      have HK : Hid (Kept w wr) := hkp
      obtain ⟨g, gv⟩ := p
      dsimp only at q0 q1
      clear hp hkp hcm
      by_cases hg : g < f
      · have d1 : decide (cmpI g f < 0) = true := by rw [cmpI_lt]; exact decide_eq_true hg
        have hm := HM.out.1
        go_wp2_with (go_at_call 84; refine (cmpF _ _ _ _).mono ?_; rintro e w' ⟨rfl, k1⟩)
        have := HM.out.2 hg
        exact ⟨⟨(lo + hi) / 2 + 1, hi, by go_num, rfl, by omega, by omega, h3, HK.out.trans k1⟩, by simp [intOf]; omega⟩
      · have d1 : decide (cmpI g f < 0) = false := by rw [cmpI_lt]; exact decide_eq_false hg
        go_wp2_with (go_at_call 84; refine (cmpF _ _ _ _).mono ?_; rintro e w' ⟨rfl, k1⟩)
        have : ¬ (lo + hi) / 2 < c := fun h => by have h9 : g < f := HM.out.1 h; omega
        exact ⟨⟨lo, (lo + hi) / 2, rfl, by go_num, by omega, by omega, by omega, HK.out.trans k1⟩, by simp [intOf]; omega⟩
    · obtain rfl : lo = c := by omega
      obtain rfl : hi = lo := by omega
      by_cases hl : hi < ps.length
      · obtain ⟨p, hp⟩ : ∃ p, ps[hi]? = some p := ⟨_, List.getElem?_eq_getElem hl⟩
        obtain ⟨bb, o, cap', e, q0, q1⟩ := key_get (hv.kept hkp) hp
        cases e
        have HK : Hid (Kept w wr) := hkp
        obtain ⟨g, gv⟩ := p
        dsimp only at q0 q1
        clear hp hkp
        go_wp2_with (go_at_call 84; refine (cmpF _ _ _ _).mono ?_; rintro e w' ⟨rfl, k1⟩)
        go_ret2
        exact ⟨⟨_, rfl⟩, HK.out.trans k1⟩
      · go_wp2
        go_ret2
        exact ⟨⟨_, rfl⟩, hkp⟩

end Go.Proofs.Ytpnplfngglfpoaa
