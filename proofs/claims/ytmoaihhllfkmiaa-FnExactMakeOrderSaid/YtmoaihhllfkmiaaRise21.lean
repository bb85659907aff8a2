/-
  risingNames.
-/
import Derived.Test.YtmoaihhllfkmiaaLeaf21n
import Derived.Test.YtmoaihhllfkmiaaTxt
import Derived.WalkLawsBesides
namespace Go.Proofs.Ytmoaihhllfkmiaa
open Go.ChangeShapes Go.WideShapes Go.ChangeAt Go.RowKit

set_option maxRecDepth 100000
set_option linter.unusedVariables false
set_option linter.unusedSimpArgs false
set_option maxHeartbeats 4000000 in
theorem irises (ss : List ByteArray) (m : Nat) (v : Value) (w : World) (hv : TxtAt w v ss) (hm : m ≤ 1000) (hn : ss.length ≤ 1048576) (hs : ∀ p ∈ ss, p.size ≤ 1048576) :
    Calls Try.prog 71 #[v, .int .i64 (m : Int)] w fun e w' => e = .returned (.bool (decide (KeysP m ss))) ∧ Kept w w' := by
  obtain ⟨ao, cap, hsl⟩ := row_nil hv
  subst hsl
  have NO : Hid (¬ KeysP m ss → decide (KeysP m ss) = false) := decide_eq_false
  have YES : Hid (KeysP m ss → decide (KeysP m ss) = true) := decide_eq_true
  generalize decide (KeysP m ss) = R at *
  by_cases h12 : m < ss.length
  · rw [NO.out (fun h => by have := h.1; omega)]
    have h12' : decide ((m : Int) < (ss.length : Int)) = true := by simp; omega
    go_enter Try.func71, Try.ntmps71
    go_wp2
    go_ret
    exact ⟨rfl, But.refl _ _ _⟩
  have h12' : decide ((m : Int) < (ss.length : Int)) = false := by simp; omega
  go_enter Try.func71, Try.ntmps71
  go_wp2
  clear h12'
  have hm9 : ss.length ≤ m := by omega
  have HM : Hid (ss.length ≤ m) := hm9
  clear h12 hm9
  go_loopw [5, 14] (fun l i wr => ∃ (k : Nat) (s : ByteArray), k ≤ ss.length ∧ i = .int .i64 k ∧ l = .string s ∧ Hid (∀ j, j < k → KeyOk ss j) ∧ Hid (k = 0 → s = ⟨#[]⟩) ∧ Hid (∀ q, 0 < k → ss[k - 1]? = some q → s = q) ∧ Kept w wr) (fun l i _ => ss.length - (intOf i).toNat)
  case atStart => exact ⟨0, _, by omega, rfl, rfl, fun j hj => by omega, fun _ => rfl, fun q h => by omega, But.refl _ _ _⟩
  case round =>
    obtain ⟨k, s, hk, rfl, rfl, hok, hs0, hsq, hkp⟩ := hrel
    by_cases hlt : k < ss.length
    · obtain ⟨p, hp⟩ : ∃ p, ss[k]? = some p := ⟨_, List.getElem?_eq_getElem hlt⟩
      obtain ⟨b, o, cap1, e, c0⟩ := txt_get (hv.kept hkp) hp
      cases e
      have hnl : p.size ≤ 1048576 := hs p (List.mem_of_getElem? hp)
      have HI : Hid (KeyOk ss k ↔ nameB p = true ∧ Op.bytesLess p.toList s.toList = false ∧ (p.toList == s.toList) = false) := key_iff hp hs0.out hsq.out
      have HP : Hid (ss[k]? = some p) := hp
      clear hs0 hsq hv hp
      by_cases hg : KeyOk ss k
      · obtain ⟨g1, g2, g3⟩ := HI.out.1 hg
        have HG : Hid (KeyOk ss k) := hg
        clear hg HI
        go_wp2_with (go_at_call 110; refine (iname _ _ hnl).mono ?_; rintro e w' ⟨rfl, rfl⟩)
        refine ⟨⟨k + 1, _, hlt, by go_num, rfl, all_more hok.out HG.out, fun h => absurd h (by omega), fun q _ hq => ?_, hkp⟩, by simp [intOf]; omega⟩
        rw [Nat.add_sub_cancel, HP.out] at hq
        cases hq
        rfl
      · have hway : nameB p = false ∨ (nameB p = true ∧ Op.bytesLess p.toList s.toList = true) ∨ (nameB p = true ∧ Op.bytesLess p.toList s.toList = false ∧ (p.toList == s.toList) = true) := by
          cases q1 : nameB p with
          | false => exact .inl rfl
          | true =>
            refine .inr ?_
            cases q2 : Op.bytesLess p.toList s.toList with
            | true => exact .inl ⟨rfl, rfl⟩
            | false =>
              refine .inr ⟨rfl, rfl, ?_⟩
              cases q3 : (p.toList == s.toList) with
              | true => rfl
              | false => exact absurd (HI.out.2 ⟨q1, q2, q3⟩) hg
        have hR := NO.out (fun h => hg (h.2 k hlt))
        subst hR
        clear hg HI
        rcases hway with h1 | ⟨h1, h2⟩ | ⟨h1, h2, h3⟩
        all_goals
          go_wp2_with (go_at_call 110; refine (iname _ _ hnl).mono ?_; rintro e w' ⟨rfl, rfl⟩)
          go_ret
          exact ⟨rfl, hkp⟩
    · have hke : k = ss.length := by omega
      subst hke
      have hR := YES.out ⟨HM.out, hok.out⟩
      subst hR
      go_wp2
      go_ret
      exact ⟨rfl, hkp⟩

end Go.Proofs.Ytmoaihhllfkmiaa
