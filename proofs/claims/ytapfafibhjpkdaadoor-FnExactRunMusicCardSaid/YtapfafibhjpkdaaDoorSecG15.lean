/-
  One good section in the program.
-/
import Derived.Test.YtapfafibhjpkdaaDoorSecL15
namespace Go.Proofs.YtapfafibhjpkdaaDoor
open Go.ChangeShapes Go.WideShapes Go.ChangeAt Go.RowKit

set_option maxRecDepth 100000
set_option linter.unusedVariables false
set_option maxHeartbeats 4000000 in
theorem irise (s : Int) (l : List Int) (ao : Option Addr) (cap : Nat) (w : World) (hv : NumAt w (.slice ao l.length cap) l) (hn : l.length ≤ 9000000000000000000) :
    Calls Tryd.prog 46 #[.slice ao l.length cap, .int .i64 s] w fun e w' => e = .returned (.bool (dec (RiseP s l))) ∧ Kept w w' := by
  go_enter Tryd.func46, Tryd.ntmps46
  go_wp2
  go_loopw [5, 10] (fun la i wr => ∃ (k : Nat) (y : Int), k ≤ l.length ∧ i = .int .i64 k ∧ la = .int .i64 y ∧ Hid (-1 ≤ y ∧ (k = 0 → y = -1) ∧ (k ≠ 0 → l[k - 1]? = some y) ∧ ∀ j, j < k → SortAt s l j) ∧ Kept w wr) (fun la i _ => l.length - (intOf i).toNat)
  case atStart => exact ⟨0, -1, by omega, rfl, rfl, ⟨by omega, fun _ => rfl, fun h => absurd rfl h, fun j hj => by omega⟩, But.refl _ _ _⟩
  case round =>
    obtain ⟨k, y, hk, rfl, rfl, HB, hkp⟩ := hrel
    by_cases hlt : k < l.length
    · obtain ⟨p, hp⟩ : ∃ p, l[k]? = some p := ⟨_, List.getElem?_eq_getElem hlt⟩
      obtain ⟨g, o, cap1, ee, c0⟩ := num_get (hv.kept hkp) hp
      cases ee
      have HK : Hid _ := hkp
      have HP : Hid (l[k]? = some p) := hp
      clear hkp hp hv
      by_cases h1 : p ≤ y
      · repeat (first | go_values | go_skip | go_guarded | go_step | go_upon)
        go_ret
        refine ⟨ret_boolG (dec_no fun h => ?_).symm, HK.out⟩
        obtain ⟨b1, b2, b3, b4⟩ := HB.out
        obtain ⟨z1, z2, z3⟩ := h k hlt p HP.out
        by_cases hk0 : k = 0
        · have := b2 hk0; omega
        · have := z3 y hk0 (b3 hk0); omega
      · by_cases h2 : s ≤ p
        · repeat (first | go_values | go_skip | go_guarded | go_step | go_upon)
          go_ret
          refine ⟨ret_boolG (dec_no fun h => ?_).symm, HK.out⟩
          obtain ⟨z1, z2, z3⟩ := h k hlt p HP.out
          omega
        · repeat (first | go_values | go_skip | go_guarded | go_step | go_upon)
          refine ⟨⟨k + 1, p, hlt, by go_num, rfl, ?_, HK.out⟩, by simp [intOf]; omega⟩
          obtain ⟨b1, b2, b3, b4⟩ := HB.out
          refine ⟨by omega, by omega, fun _ => HP.out, fun j hj => ?_⟩
          by_cases hjk : j = k
          · subst hjk
            intro p' hp'
            rw [HP.out] at hp'
            cases hp'
            refine ⟨by omega, by omega, fun q hq hq' => ?_⟩
            rw [b3 hq] at hq'
            cases hq'
            omega
          · exact b4 j (by omega)
    · have hke : k = l.length := by omega
      subst hke
      have HKP : Hid _ := hkp
      clear hkp
      go_wp2
      go_ret
      exact ⟨ret_boolG (dec_yes HB.out.2.2.2).symm, HKP.out⟩

set_option maxHeartbeats 4000000 in
theorem igsec (d0 : ByteArray) (d1 : Int) (d2 : List Int) (d3 : ByteArray) (a3 : Option Addr) (p3 : Nat) (w : World) (hv : NumAt w (.slice a3 d2.length p3) d2) (hs : d0.size ≤ 1048576) (hn : d2.length ≤ 1048576) :
    Calls Tryd.prog 40 #[.agg #[.string d0, .int .i64 d1, .slice a3 d2.length p3, .string d3]] w fun e w' => e = .returned (.bool (dec (SecOne (d0, d1, d2, d3)))) ∧ Kept w w' := by
  by_cases h1 : nameB d0 = true
  case neg =>
    have q1 : nameB d0 = false := Bool.eq_false_iff.2 h1
    go_enter Tryd.func40, Tryd.ntmps40
    repeat (first | (go_at_call 45; refine (iname _ _ hs).mono ?_; rintro e w3 ⟨rfl, hw3⟩; rw [hw3, q1]; clear hw3; dsimp only) | go_values | go_skip | go_guarded | go_step | go_upon)
    go_ret
    exact ⟨ret_boolG (dec_no fun h => h1 h.1).symm, (But.refl _ _ _).alloc _⟩
  have q1 : nameB d0 = true := h1
  by_cases h2 : 1 ≤ d1
  case neg =>
    have q2 : decide (1 ≤ d1) = false := decide_eq_false h2
    go_enter Tryd.func40, Tryd.ntmps40
    repeat (first | (go_at_call 45; refine (iname _ _ hs).mono ?_; rintro e w3 ⟨rfl, hw3⟩; rw [hw3, q1]; clear hw3; dsimp only) | go_values | go_skip | go_guarded | go_step | go_upon)
    go_ret
    exact ⟨ret_boolG (dec_no fun h => h2 h.2.1.1).symm, (But.refl _ _ _).alloc _⟩
  have q2 : decide (1 ≤ d1) = true := decide_eq_true h2
  by_cases h3 : d1 ≤ 64
  case neg =>
    have q3 : decide (d1 ≤ 64) = false := decide_eq_false h3
    go_enter Tryd.func40, Tryd.ntmps40
    repeat (first | (go_at_call 45; refine (iname _ _ hs).mono ?_; rintro e w3 ⟨rfl, hw3⟩; rw [hw3, q1]; clear hw3; dsimp only) | go_values | go_skip | go_guarded | go_step | go_upon)
    go_ret
    exact ⟨ret_boolG (dec_no fun h => h3 h.2.1.2).symm, (But.refl _ _ _).alloc _⟩
  have q3 : decide (d1 ≤ 64) = true := decide_eq_true h3
  by_cases h4 : RiseP d1 d2
  case neg =>
    have q4 : dec (RiseP d1 d2) = false := dec_no h4
    go_enter Tryd.func40, Tryd.ntmps40
    repeat (first | (go_at_call 45; refine (iname _ _ hs).mono ?_; rintro e w3 ⟨rfl, hw3⟩; rw [hw3, q1]; clear hw3; dsimp only) | (go_at_call 46; refine (irise d1 d2 _ _ _ (hv.kept ((But.refl _ _ _).alloc _)) (by omega)).mono ?_; rintro e w4 ⟨rfl, k4⟩; rw [q4]; dsimp only) | go_values | go_skip | go_guarded | go_step | go_upon)
    go_ret
    exact ⟨ret_boolG (dec_no fun h => h4 h.2.2).symm, ((But.refl _ _ _).alloc _).trans k4⟩
  have q4 : dec (RiseP d1 d2) = true := dec_yes h4
  go_enter Tryd.func40, Tryd.ntmps40
  repeat (first | (go_at_call 45; refine (iname _ _ hs).mono ?_; rintro e w3 ⟨rfl, hw3⟩; rw [hw3, q1]; clear hw3; dsimp only) | (go_at_call 46; refine (irise d1 d2 _ _ _ (hv.kept ((But.refl _ _ _).alloc _)) (by omega)).mono ?_; rintro e w4 ⟨rfl, k4⟩; rw [q4]; dsimp only) | go_values | go_skip | go_guarded | go_step | go_upon)
  go_ret
  exact ⟨ret_boolG (dec_yes ⟨h1, ⟨h2, h3⟩, h4⟩).symm, ((But.refl _ _ _).alloc _).trans k4⟩

end Go.Proofs.YtapfafibhjpkdaaDoor
