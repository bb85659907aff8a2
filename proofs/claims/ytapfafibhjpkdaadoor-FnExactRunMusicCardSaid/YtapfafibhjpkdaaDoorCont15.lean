/-
  Whether a number is one of a list.
-/
import Derived.Test.YtapfafibhjpkdaaDoorMRun15
namespace Go.Proofs.YtapfafibhjpkdaaDoor
open Go.ChangeShapes Go.WideShapes Go.ChangeAt Go.RowKit

set_option maxRecDepth 100000
set_option linter.unusedVariables false

set_option maxHeartbeats 1000000 in
theorem scont (l : List Int) (x : Int) (s : Value) (w : World) (hv : NumAt w s l) (hl : l.length ≤ 1048576) :
    Calls Tryd.prog 20 #[s, .int .i64 x] w fun e w' => e = .returned (.bool (memB x l)) ∧ Kept w w' := by
  obtain ⟨ao, cap, hsl⟩ := row_nil hv
  subst hsl
  go_enter Tryd.func20, Tryd.ntmps20
  go_wp2
  go_loopw [9] (fun i wr => ∃ (k : Nat), k ≤ l.length ∧ i = .int .i64 k ∧ Hid (∀ (j : Nat) (y : Int), j < k → l[j]? = some y → y ≠ x) ∧ Kept w wr) (fun i _ => l.length - (intOf i).toNat)
  case atStart => exact ⟨0, by omega, rfl, fun j y hj => by omega, But.refl _ _ _⟩
  case round =>
    obtain ⟨k, hk, rfl, HB, hkp⟩ := hrel
    by_cases hlt : k < l.length
    · obtain ⟨p, hp⟩ : ∃ p : Int, l[k]? = some p := ⟨_, List.getElem?_eq_getElem hlt⟩
      obtain ⟨g, o, cap1, ee, c0⟩ := num_get (hv.kept hkp) hp
      cases ee
      have HK : Hid (Kept w wr) := hkp
      have HP : Hid (l[k]? = some p) := hp
      clear hkp hp hv
      by_cases hq : p = x
      · have e1 : (p == x) = true := beq_iff_eq.2 hq
        have HQ : Hid (p = x) := hq
        clear hq
        repeat (first | go_values | go_skip | go_guarded | go_step | go_upon)
        go_ret
        exact ⟨ret_boolG (decide_eq_true (by rw [← HQ.out]; exact List.mem_of_getElem? HP.out)).symm, HK.out⟩
      · have e1 : (p == x) = false := beq_eq_false_iff_ne.2 hq
        repeat (first | go_values | go_skip | go_guarded | go_step | go_upon)
        refine ⟨⟨k + 1, hlt, by go_num, fun j y hj hy => ?_, HK.out⟩, by simp [intOf]; omega⟩
        by_cases hjk : j = k
        · subst hjk
          rw [HP.out] at hy
          cases hy
          exact hq
        · exact HB.out j y (by omega) hy
    · have hke : k = l.length := by omega
      subst hke
      have HK : Hid (Kept w wr) := hkp
      clear hkp
      go_wp2
      go_ret
      refine ⟨ret_boolG (decide_eq_false fun hm => ?_).symm, HK.out⟩
      obtain ⟨j, hj⟩ := List.mem_iff_getElem?.1 hm
      exact HB.out j x (List.getElem?_eq_some_iff.1 hj).1 hj rfl
set_option maxHeartbeats 1000000 in
theorem iindex (l : List Int) (x : Int) (s : Value) (w : World) (hv : NumAt w s l) (hl : l.length ≤ 1048576) :
    Calls Tryd.prog 41 #[s, .int .i64 x] w fun e w' => (∃ i : Int, e = .returned (.int .i64 i) ∧ decide (0 ≤ i) = memB x l) ∧ Kept w w' := by
  obtain ⟨ao, cap, hsl⟩ := row_nil hv
  subst hsl
  go_enter Tryd.func41, Tryd.ntmps41
  go_wp2
  go_loopw [8] (fun i wr => ∃ (k : Nat), k ≤ l.length ∧ i = .int .i64 k ∧ Hid (∀ (j : Nat) (y : Int), j < k → l[j]? = some y → y ≠ x) ∧ Kept w wr) (fun i _ => l.length - (intOf i).toNat)
  case atStart => exact ⟨0, by omega, rfl, fun j y hj => by omega, But.refl _ _ _⟩
  case round =>
    obtain ⟨k, hk, rfl, HB, hkp⟩ := hrel
    by_cases hlt : k < l.length
    · obtain ⟨p, hp⟩ : ∃ p : Int, l[k]? = some p := ⟨_, List.getElem?_eq_getElem hlt⟩
      obtain ⟨g, o, cap1, ee, c0⟩ := num_get (hv.kept hkp) hp
      cases ee
      have HK : Hid (Kept w wr) := hkp
      have HP : Hid (l[k]? = some p) := hp
      clear hkp hp hv
      by_cases hq : x = p
      · have e1 : (x == p) = true := beq_iff_eq.2 hq
        have HQ : Hid (x = p) := hq
        clear hq
        repeat (first | go_values | go_skip | go_guarded | go_step | go_upon)
        go_ret
        refine ⟨⟨k, rfl, ?_⟩, HK.out⟩
        rw [show memB x l = true from decide_eq_true (by rw [HQ.out]; exact List.mem_of_getElem? HP.out)]
        exact decide_eq_true (by omega)
      · have e1 : (x == p) = false := beq_eq_false_iff_ne.2 hq
        repeat (first | go_values | go_skip | go_guarded | go_step | go_upon)
        refine ⟨⟨k + 1, hlt, by go_num, fun j y hj hy => ?_, HK.out⟩, by simp [intOf]; omega⟩
        by_cases hjk : j = k
        · subst hjk
          rw [HP.out] at hy
          cases hy
          exact fun e => hq e.symm
        · exact HB.out j y (by omega) hy
    · have hke : k = l.length := by omega
      subst hke
      have HK : Hid (Kept w wr) := hkp
      clear hkp
      go_wp2
      go_ret
      refine ⟨⟨-1, rfl, ?_⟩, HK.out⟩
      rw [show memB x l = false from decide_eq_false fun hm => by
        obtain ⟨j, hj⟩ := List.mem_iff_getElem?.1 hm
        exact HB.out j x (List.getElem?_eq_some_iff.1 hj).1 hj rfl]
      rfl
theorem icont (l : List Int) (x : Int) (s : Value) (w : World) (hv : NumAt w s l) (hl : l.length ≤ 1048576) :
    Calls Tryd.prog 36 #[s, .int .i64 x] w fun e w' => e = .returned (.bool (memB x l)) ∧ Kept w w' := by
  obtain ⟨ao, cap, hsl⟩ := row_nil hv
  subst hsl
  go_enter Tryd.func36, Tryd.ntmps36
  repeat (first | go_values | go_skip | go_guarded | go_step | go_upon)
  go_at_call 41
  refine (iindex l x _ _ hv hl).mono ?_
  rintro e w1 ⟨⟨i, rfl, hi⟩, k1⟩
  dsimp only
  repeat (first | go_values | go_skip | go_guarded | go_step | go_upon)
  go_ret
  exact ⟨rfl, k1⟩

end Go.Proofs.YtapfafibhjpkdaaDoor
