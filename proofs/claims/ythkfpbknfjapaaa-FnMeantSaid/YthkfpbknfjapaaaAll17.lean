/-
  Whether all keys of a chord are among others, in the specification.
-/
import Derived.Test.YthkfpbknfjapaaaMapP17
import Derived.Test.YthkfpbknfjapaaaNum
import Derived.Test.YthkfpbknfjapaaaLeaf17
namespace Go.Proofs.Ythkfpbknfjapaaa
open Go.ChangeShapes Go.WideShapes Go.ChangeAt Go.RowKit

set_option maxRecDepth 100000
set_option linter.unusedVariables false

theorem sin14 (c : List Int) (x : Int) (v : Value) (w : World) (hv : NumAt w v c) (hn : c.length ≤ 1048576) :
    Calls Try.prog 115 #[v, .int .i64 x] w fun e w' => e = .returned (.bool (decide (x ∈ c))) ∧ Kept w w' := by
  obtain ⟨ao, cap, hsl⟩ := row_nil hv
  subst hsl
  go_enter Try.func115, Try.ntmps115
  repeat (first | go_values | go_skip | go_guarded | go_step | go_upon)
  go_loopw [9] (fun i wr => ∃ (k : Nat), k ≤ c.length ∧ i = .int .i64 k ∧ Hid (∀ j y, j < k → c[j]? = some y → y ≠ x) ∧ Kept w wr) (fun i _ => c.length - (intOf i).toNat)
  case atStart => exact ⟨0, by omega, rfl, fun j x hj => by omega, But.refl _ _ _⟩
  case round =>
    obtain ⟨k, hk2, rfl, HB, hkp⟩ := hrel
    by_cases hlt : k < c.length
    · obtain ⟨p, hp⟩ : ∃ p : Int, c[k]? = some p := ⟨_, List.getElem?_eq_getElem hlt⟩
      obtain ⟨g, o, cap1, ee, c0⟩ := num_get (hv.kept hkp) hp
      cases ee
      have HK : Hid (Kept w wr) := hkp
      have HP : Hid (c[k]? = some p) := hp
      clear hkp hp hv
      by_cases hin : p = x
      · have dq : decide (p = x) = true := decide_eq_true hin
        repeat (first | go_values | go_skip | go_guarded | go_step | go_upon)
        go_ret
        exact ⟨ret_boolG (decide_eq_true (by rw [← hin]; exact List.mem_of_getElem? HP.out)).symm, HK.out⟩
      · have dq : decide (p = x) = false := decide_eq_false hin
        repeat (first | go_values | go_skip | go_guarded | go_step | go_upon)
        refine ⟨⟨k + 1, hlt, by go_num, (fun j y hj hy => ?_), HK.out⟩, by simp [intOf]; omega⟩
        by_cases e : j = k
        · subst e
          rw [HP.out] at hy
          cases hy
          exact hin
        · exact HB.out j y (by omega) hy
    · have hke : k = c.length := by omega
      subst hke
      have HK : Hid (Kept w wr) := hkp
      clear hkp
      go_wp2
      go_ret
      refine ⟨ret_boolG (decide_eq_false (fun hm => ?_)).symm, HK.out⟩
      obtain ⟨i, hi⟩ := List.mem_iff_getElem?.1 hm
      exact HB.out i x (List.getElem?_eq_some_iff.1 hi).1 hi rfl

theorem sall (c h : List Int) (v v2 : Value) (w : World) (hv : NumAt w v c) (hv2 : NumAt w v2 h) (hn : c.length ≤ 1048576) (hn2 : h.length ≤ 1048576) :
    Calls Try.prog 93 #[v, v2] w fun e w' => e = .returned (.bool (allK c h)) ∧ Kept w w' := by
  obtain ⟨ao, cap, hsl⟩ := row_nil hv
  subst hsl
  obtain ⟨ao2, cap2, hsl⟩ := row_nil hv2
  subst hsl
  go_enter Try.func93, Try.ntmps93
  repeat (first | go_values | go_skip | go_guarded | go_step | go_upon)
  go_loopw [9] (fun i wr => ∃ (k : Nat), k ≤ c.length ∧ i = .int .i64 k ∧ Hid (∀ j x, j < k → c[j]? = some x → x ∈ h) ∧ Kept w wr) (fun i _ => c.length - (intOf i).toNat)
  case atStart => exact ⟨0, by omega, rfl, fun j x hj => by omega, But.refl _ _ _⟩
  case round =>
    obtain ⟨k, hk2, rfl, HB, hkp⟩ := hrel
    by_cases hlt : k < c.length
    · obtain ⟨p, hp⟩ : ∃ p : Int, c[k]? = some p := ⟨_, List.getElem?_eq_getElem hlt⟩
      obtain ⟨g, o, cap1, ee, c0⟩ := num_get (hv.kept hkp) hp
      cases ee
      have H2 : Hid (NumAt wr (.slice ao2 h.length cap2) h) := hv2.kept hkp
      have HK : Hid (Kept w wr) := hkp
      have HP : Hid (c[k]? = some p) := hp
      clear hkp hp hv hv2
      by_cases hin : p ∈ h
      · have dq : decide (p ∈ h) = true := decide_eq_true hin
        repeat (first | (go_at_call 115; refine (sin14 h p _ _ H2.out hn2).mono ?_; rintro e w3 ⟨rfl, k3⟩; rw [dq]; dsimp only) | go_values | go_skip | go_guarded | go_step | go_upon)
        refine ⟨⟨k + 1, hlt, by go_num, (fun j x hj hx => ?_), HK.out.trans k3⟩, by simp [intOf]; omega⟩
        by_cases e : j = k
        · subst e
          rw [HP.out] at hx
          cases hx
          exact hin
        · exact HB.out j x (by omega) hx
      · have dq : decide (p ∈ h) = false := decide_eq_false hin
        repeat (first | (go_at_call 115; refine (sin14 h p _ _ H2.out hn2).mono ?_; rintro e w3 ⟨rfl, k3⟩; rw [dq]; dsimp only) | go_values | go_skip | go_guarded | go_step | go_upon)
        go_ret
        exact ⟨ret_boolG (allK_no HP.out hin).symm, HK.out.trans k3⟩
    · have hke : k = c.length := by omega
      subst hke
      have HK : Hid (Kept w wr) := hkp
      clear hkp
      go_wp2
      go_ret
      exact ⟨ret_boolG (allK_yes HB.out).symm, HK.out⟩

end Go.Proofs.Ythkfpbknfjapaaa
