/-
  goodTies.
-/
import Derived.Test.YtcbenpnnjkgkdaaRows
import Derived.Test.YtcbenpnnjkgkdaaIslP10
import Derived.Test.YtcbenpnnjkgkdaaPair
import Derived.Test.YtcbenpnnjkgkdaaSplit10
import Derived.Test.YtcbenpnnjkgkdaaQuiet
import Derived.WalkLawsBesides
namespace Go.Proofs.Ytcbenpnnjkgkdaa
open Go.ChangeShapes Go.WideShapes Go.ChangeAt Go.RowKit

set_option maxRecDepth 100000
set_option linter.unusedVariables false
set_option linter.unusedSimpArgs false

abbrev TieOk (m : Int) (t : PairD) : Prop := 0 ≤ t.1 ∧ t.1 < t.2 ∧ t.2 < m
abbrev TieP (m : Int) (ts : List PairD) : Prop := ts.length ≤ 200 ∧ ∀ t ∈ ts, TieOk m t
set_option maxHeartbeats 4000000 in
theorem igt (m : Int) (ts : List PairD) (v : Value) (w : World) (hv : PairAt w v ts) (hn : ts.length ≤ 1048576) :
    Calls Try.prog 15 #[.int .i64 m, v] w fun e w' => e = .returned (.bool (decide (TieP m ts))) ∧ Kept w w' := by
  obtain ⟨ao, cap, hsl⟩ := row_nil hv
  subst hsl
  have HV : Hid (PairAt w (.slice ao ts.length cap) ts) := hv
  clear hv
  have NO : Hid (¬ TieP m ts → decide (TieP m ts) = false) := decide_eq_false
  have YES : Hid (TieP m ts → decide (TieP m ts) = true) := decide_eq_true
  generalize decide (TieP m ts) = R at *
  by_cases h2 : 200 < ts.length
  · have hd2 : decide ((200 : Int) < (ts.length : Int)) = true := decide_eq_true (by omega)
    have hR := NO.out fun h => by have := h.1; omega
    subst hR
    go_enter Try.func15, Try.ntmps15
    repeat (first | go_values | go_skip | go_guarded | go_step | go_upon)
    go_ret
    exact ⟨rfl, But.refl _ _ _⟩
  have hd2 : decide ((200 : Int) < (ts.length : Int)) = false := decide_eq_false (by omega)
  go_enter Try.func15, Try.ntmps15
  repeat (first | go_values | go_skip | go_guarded | go_step | go_upon)
  clear hd2
  go_loopw [12] (fun i wr => ∃ (k : Nat), k ≤ ts.length ∧ i = .int .i64 k ∧ Hid (∀ t ∈ ts.take k, TieOk m t) ∧ Kept w wr) (fun i _ => ts.length - (intOf i).toNat)
  case atStart => exact ⟨0, by omega, rfl, fun d hd => by simp at hd, But.refl _ _ _⟩
  case round =>
    obtain ⟨k, hk, rfl, HALL, hkp⟩ := hrel
    by_cases hlt : k < ts.length
    · obtain ⟨d, hd⟩ : ∃ d, ts[k]? = some d := ⟨_, List.getElem?_eq_getElem hlt⟩
      obtain ⟨b, o, cap1, e, c0, c1⟩ := pair_get (HV.out.kept hkp) hd
      cases e
      have HTK : Hid (ts.take (k + 1) = ts.take k ++ [d]) := take_snoc hd
      have HK : Hid (Kept w wr) := hkp
      have NK : Hid (¬ TieOk m d → R = false) := fun h => NO.out fun h' => h (h'.2 _ (List.mem_of_getElem? hd))
      obtain ⟨A, B⟩ := d
      dsimp only at c0 c1
      have hgw : b < wr.heap.size := World.block_lt_of_cell? _ _ c0
      have z0 : (0 : Int) ≤ (k : Int) := by omega
      have z1 : (k : Int) < (ts.length : Int) := by omega
      clear hd hkp
      by_cases h1 : A < 0
      · have d1 : decide (A < 0) = true := decide_eq_true h1
        have hR := NK.out fun h => by have := h.1; dsimp only at this; omega
        subst hR
        repeat (first | go_values | go_skip | go_guarded | go_step | go_upon)
        go_ret
        exact ⟨rfl, HK.out.trans ((But.refl _ _ _).alloc _)⟩
      · have d1 : decide (A < 0) = false := decide_eq_false h1
        by_cases h3 : B ≤ A
        · have d2 : decide (B ≤ A) = true := decide_eq_true h3
          have hR := NK.out fun h => by have := h.2.1; dsimp only at this; omega
          subst hR
          repeat (first | go_values | go_skip | go_guarded | go_step | go_upon)
          go_ret
          exact ⟨rfl, HK.out.trans ((But.refl _ _ _).alloc _)⟩
        · have d2 : decide (B ≤ A) = false := decide_eq_false h3
          by_cases h4 : m ≤ B
          · have d3 : decide (m ≤ B) = true := decide_eq_true h4
            have hR := NK.out fun h => by have := h.2.2; dsimp only at this; omega
            subst hR
            repeat (first | go_values | go_skip | go_guarded | go_step | go_upon)
            go_ret
            exact ⟨rfl, HK.out.trans ((But.refl _ _ _).alloc _)⟩
          · have d3 : decide (m ≤ B) = false := decide_eq_false h4
            repeat (first | go_values | go_skip | go_guarded | go_step | go_upon)
            refine ⟨⟨k + 1, hlt, by go_num, fun t ht => ?_, HK.out.trans ((But.refl _ _ _).alloc _)⟩, by simp [intOf]; omega⟩
            rw [HTK.out, List.mem_append] at ht
            rcases ht with ht | ht
            · exact HALL.out t ht
            · simp at ht; subst ht; exact ⟨by show 0 ≤ A; omega, by show A < B; omega, by show B < m; omega⟩
    · have hke : k = ts.length := by omega
      subst hke
      have hA := HALL.out
      rw [List.take_length] at hA
      have hR := YES.out ⟨by omega, hA⟩
      subst hR
      repeat (first | go_values | go_skip | go_guarded | go_step | go_upon)
      go_ret
      exact ⟨rfl, hkp⟩

end Go.Proofs.Ytcbenpnnjkgkdaa
