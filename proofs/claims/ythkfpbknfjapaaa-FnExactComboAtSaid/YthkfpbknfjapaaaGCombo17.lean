/-
  Combos as they must be, in the program.
-/
import Derived.Test.YthkfpbknfjapaaaComboP17
import Derived.Test.YthkfpbknfjapaaaTxt
namespace Go.Proofs.Ythkfpbknfjapaaa
open Go.ChangeShapes Go.WideShapes Go.ChangeAt Go.RowKit

set_option maxRecDepth 100000
set_option linter.unusedVariables false

theorem gc1 (s : ByteArray) (w : World) (hs : s.size ≤ 1048576) : Calls Try.prog 109 #[.string s] w fun e w' => e = .returned (.bool (!nameB s)) ∧ w' = w := by
  go_enter Try.func109, Try.ntmps109
  repeat (first | (go_at_call 59; refine (iname s _ hs).mono ?_; rintro e w3 ⟨rfl, hw3⟩; rw [hw3]; clear hw3 w3; dsimp only) | go_values | go_skip | go_guarded | go_step | go_upon)
  go_ret
  exact ⟨rfl, rfl⟩
set_option maxHeartbeats 4000000 in
theorem gcidx (cs : List ByteArray) (v : Value) (w : World) (hv : TxtAt w v cs) (hn : cs.length ≤ 1048576) (hs : ∀ s ∈ cs, s.size ≤ 1048576) :
    Calls Try.prog 129 #[v, .func (.func 109) #[] #[]] w fun e w' => ∃ x : Int, e = .returned (.int .i64 x) ∧ (0 ≤ x ↔ ¬ ∀ j s, j < cs.length → cs[j]? = some s → nameB s = true) ∧ Kept w w' := by
  obtain ⟨ao, cap, hsl⟩ := row_nil hv
  subst hsl
  go_enter Try.func129, Try.ntmps129
  go_wp2
  go_loopw [8] (fun i wr => ∃ (k : Nat), k ≤ cs.length ∧ i = .int .i64 k ∧ Hid (∀ j s, j < k → cs[j]? = some s → nameB s = true) ∧ Kept w wr) (fun i _ => cs.length - (intOf i).toNat)
  case atStart => exact ⟨0, by omega, rfl, fun j s hj => by omega, But.refl _ _ _⟩
  case round =>
    obtain ⟨k, hk, rfl, HB, hkp⟩ := hrel
    by_cases hlt : k < cs.length
    · obtain ⟨s, hd⟩ : ∃ p, cs[k]? = some p := ⟨_, List.getElem?_eq_getElem hlt⟩
      obtain ⟨b, o, cap', ee, c0⟩ := txt_get (hv.kept hkp) hd
      cases ee
      have hsz := hs s (List.mem_of_getElem? hd)
      have HP : Hid (cs[k]? = some s) := hd
      have HK : Hid (Kept w wr) := hkp
      clear hd hkp hv
      cases q : nameB s with
      | false =>
        repeat (first | (go_at_call 109; refine (gc1 s _ hsz).mono ?_; rintro e w3 ⟨rfl, hw3⟩; rw [hw3, q]; clear hw3 w3; dsimp only) | go_values | go_skip | go_guarded | go_step | go_upon)
        go_ret
        refine ⟨_, rfl, ⟨fun _ h => ?_, fun _ => by omega⟩, HK.out⟩
        have := h k s hlt HP.out
        rw [q] at this
        exact absurd this (by simp)
      | true =>
        repeat (first | (go_at_call 109; refine (gc1 s _ hsz).mono ?_; rintro e w3 ⟨rfl, hw3⟩; rw [hw3, q]; clear hw3 w3; dsimp only) | go_values | go_skip | go_guarded | go_step | go_upon)
        exact ⟨⟨k + 1, hlt, by go_num, (fun j s' hj hs' => by
          by_cases e : j = k
          · subst e
            rw [HP.out] at hs'
            cases hs'
            exact q
          · exact HB.out j s' (by omega) hs'), HK.out⟩, by simp [intOf]; omega⟩
    · have hke : k = cs.length := by omega
      subst hke
      have HK : Hid (Kept w wr) := hkp
      clear hkp
      go_wp2
      go_ret
      exact ⟨_, rfl, ⟨fun h => by omega, fun h => absurd HB.out h⟩, HK.out⟩
set_option maxHeartbeats 4000000 in
theorem igcombo (cs : List ByteArray) (v : Value) (w : World) (hv : TxtAt w v cs) (hn : cs.length ≤ 1048576) (hs : ∀ s ∈ cs, s.size ≤ 1048576) :
    Calls Try.prog 80 #[v] w fun e w' => e = .returned (.bool (dec (NamesP cs))) ∧ Kept w w' := by
  have HX := fun W (k : Kept w W) => gcidx cs v W (hv.kept k) hn hs
  obtain ⟨ao, cap, hsl⟩ := row_nil hv
  subst hsl
  have HX : Hid (∀ W, Kept w W → Calls Try.prog 129 #[.slice ao cs.length cap, .func (.func 109) #[] #[]] W fun e w' => ∃ x : Int, e = .returned (.int .i64 x) ∧ (0 ≤ x ↔ ¬ ∀ j s, j < cs.length → cs[j]? = some s → nameB s = true) ∧ Kept W w') := HX
  have HC : Hid (Calls Try.prog 108 #[.slice ao cs.length cap, .func (.func 109) #[] #[]] w fun e w' => e = .returned (.bool (!dec (∀ j s, j < cs.length → cs[j]? = some s → nameB s = true))) ∧ Kept w w') := by
    show Calls _ _ _ _ _
    go_enter Try.func108, Try.ntmps108
    repeat (first | (go_at_call 129; refine (HX.out _ (But.refl _ _ _)).mono ?_; rintro e w4 ⟨x, rfl, hx, k4⟩; have HXX : Hid (0 ≤ x ↔ ¬ ∀ j s, j < cs.length → cs[j]? = some s → nameB s = true) := hx; clear hx; dsimp only) | go_values | go_skip | go_guarded | go_step | go_upon)
    go_ret
    refine ⟨ret_boolG ?_, k4⟩
    rcases Classical.em (∀ j s, j < cs.length → cs[j]? = some s → nameB s = true) with h | h
    · rw [dec_yes h, decide_eq_false (fun h' => HXX.out.1 h' h)]
      rfl
    · rw [dec_no h, decide_eq_true (HXX.out.2 h)]
      rfl
  by_cases h1 : cs.length < 1
  · go_enter Try.func80, Try.ntmps80
    go_wp2
    go_ret
    exact ⟨ret_boolG (dec_no fun h => by have := h.1; omega).symm, But.refl _ _ _⟩
  by_cases h2 : 10 < cs.length
  · go_enter Try.func80, Try.ntmps80
    go_wp2
    go_ret
    exact ⟨ret_boolG (dec_no fun h => by have := h.1; omega).symm, But.refl _ _ _⟩
  have d1 : decide ((cs.length : Int) < 1) = false := by simp; omega
  have d2 : decide (10 < (cs.length : Int)) = false := by simp; omega
  go_enter Try.func80, Try.ntmps80
  repeat (first | (go_at_call 108; refine HC.out.mono ?_; rintro e w4 ⟨rfl, k4⟩; dsimp only) | go_values | go_skip | go_guarded | go_step | go_upon)
  go_ret
  refine ⟨ret_boolG ?_, k4⟩
  rcases Classical.em (∀ j s, j < cs.length → cs[j]? = some s → nameB s = true) with h | h
  · rw [dec_yes h, dec_yes (show NamesP cs from ⟨by omega, h⟩)] <;> rfl
  · rw [dec_no h, dec_no (fun h' : NamesP cs => h h'.2)] <;> rfl

end Go.Proofs.Ythkfpbknfjapaaa
