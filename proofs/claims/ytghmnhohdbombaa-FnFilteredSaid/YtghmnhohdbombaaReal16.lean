/-
  Whether a row of floats is good: both sides.
-/
import Derived.Test.YtghmnhohdbombaaGood16
namespace Go.Proofs.Ytghmnhohdbombaa
open Go.ChangeShapes Go.WideShapes Go.ChangeAt Go.RowKit Ieee

set_option maxRecDepth 100000
set_option linter.unusedVariables false
def goodR (l : List Nat) : Bool := decide (l.length ≤ 64) && l.all good
theorem isBad (x : Nat) (h : x < 18446744073709551616) (w : World) : Calls Try.prog 72 #[.float .f64 x] w fun e w' => e = .returned (.bool (!good x)) ∧ Kept w w' := by
  go_enter Try.func72, Try.ntmps72
  go_wp2_with (go_at_call 52; refine (implGood _ h _).mono ?_; rintro e w' ⟨rfl, rfl⟩)
  go_ret
  exact ⟨rfl, But.refl _ _ _⟩
theorem all_take_snoc {l : List Nat} {k : Nat} {x : Nat} (h : l[k]? = some x) : (l.take (k + 1)).all good = ((l.take k).all good && good x) := by
  rw [take_snoc h]; simp
theorem all_no {l : List Nat} {k : Nat} {x : Nat} (h : l[k]? = some x) (hg : good x = false) : l.all good = false := by
  rw [List.all_eq_false]
  exact ⟨x, List.mem_of_getElem? h, by simp [hg]⟩
set_option maxHeartbeats 4000000 in
theorem indexBad (l : List Nat) (v : Value) (w : World) (hv : FltAt w v l) (hx : ∀ p ∈ l, p < 18446744073709551616) (hn : l.length ≤ 1048576) :
    Calls Try.prog 87 #[v, .func (.func 72) #[] #[]] w fun e w' => (∃ j, e = .returned (.int .i64 j) ∧ decide (0 ≤ j) = !l.all good) ∧ Kept w w' := by
  obtain ⟨ao, cap, hsl⟩ := row_nil hv
  subst hsl
  have HV : Hid (FltAt w (.slice ao l.length cap) l) := hv
  clear hv
  go_enter Try.func87, Try.ntmps87
  repeat (first | go_values | go_skip | go_guarded | go_step | go_upon)
  go_loopw [8] (fun i wr => ∃ k : Nat, k ≤ l.length ∧ i = .int .i64 k ∧ Hid ((l.take k).all good = true) ∧ Kept w wr) (fun i _ => l.length - (intOf i).toNat)
  case atStart => exact ⟨0, by omega, rfl, (by simp : (l.take 0).all good = true), But.refl _ _ _⟩
  case round =>
    obtain ⟨k, hk, rfl, HB, hkp⟩ := hrel
    have HK : Hid (Kept w wr) := hkp
    by_cases hlt : k < l.length
    · obtain ⟨x, hxk⟩ : ∃ x, l[k]? = some x := ⟨_, List.getElem?_eq_getElem hlt⟩
      obtain ⟨b, o, cap', e, c0⟩ := flt_get (HV.out.kept hkp) hxk
      cases e
      have hxb := hx x (List.mem_of_getElem? hxk)
      have HX : Hid (l[k]? = some x) := hxk
      clear hxk hkp
      cases hpx : good x
      · repeat (first | (go_at_call 72; refine (isBad x hxb _).mono ?_; rw [hpx]; rintro e w1 ⟨rfl, k1⟩; dsimp only) | go_values | go_skip | go_guarded | go_step | go_upon)
        go_ret
        exact ⟨⟨_, rfl, by rw [all_no HX.out hpx]; simp⟩, HK.out.trans k1⟩
      · repeat (first | (go_at_call 72; refine (isBad x hxb _).mono ?_; rw [hpx]; rintro e w1 ⟨rfl, k1⟩; dsimp only) | go_values | go_skip | go_guarded | go_step | go_upon)
        refine ⟨⟨k + 1, hlt, by go_num, ?_, HK.out.trans k1⟩, by simp [intOf]; omega⟩
        show (l.take (k + 1)).all good = true
        rw [all_take_snoc HX.out, HB.out, hpx]; rfl
    · have hke : k = l.length := by omega
      subst hke
      have hb := HB.out
      rw [List.take_length] at hb
      have HB2 : Hid (l.all good = true) := hb
      clear hb HB
      repeat (first | go_values | go_skip | go_guarded | go_step | go_upon)
      go_ret
      exact ⟨⟨_, rfl, by rw [HB2.out]; rfl⟩, hkp⟩
theorem hasBad (l : List Nat) (v : Value) (w : World) (hv : FltAt w v l) (hx : ∀ p ∈ l, p < 18446744073709551616) (hn : l.length ≤ 1048576) :
    Calls Try.prog 71 #[v, .func (.func 72) #[] #[]] w fun e w' => e = .returned (.bool (!l.all good)) ∧ Kept w w' := by
  obtain ⟨ao, cap, hsl⟩ := row_nil hv
  subst hsl
  have HV : Hid (FltAt w (.slice ao l.length cap) l) := hv
  clear hv
  go_enter Try.func71, Try.ntmps71
  repeat (first | go_values | go_skip | go_guarded | go_step | go_upon)
  go_at_call 87
  refine (indexBad l _ _ HV.out hx hn).mono ?_
  rintro e w1 ⟨⟨j, rfl, hj⟩, k1⟩
  dsimp only
  repeat (first | go_values | go_skip | go_guarded | go_step | go_upon)
  go_ret
  exact ⟨by rw [← hj]; congr 2, k1⟩
theorem igoodR (l : List Nat) (v : Value) (w : World) (hv : FltAt w v l) (hx : ∀ p ∈ l, p < 18446744073709551616) (hn : l.length ≤ 1048576) :
    Calls Try.prog 46 #[v] w fun e w' => e = .returned (.bool (goodR l)) ∧ Kept w w' := by
  obtain ⟨ao, cap, hsl⟩ := row_nil hv
  subst hsl
  have HV : Hid (FltAt w (.slice ao l.length cap) l) := hv
  clear hv
  by_cases h : l.length ≤ 64
  · have hd : decide ((l.length : Int) ≤ 64) = true := by simp; omega
    go_enter Try.func46, Try.ntmps46
    repeat (first | (go_at_call 71; refine (hasBad l _ _ HV.out hx hn).mono ?_; rintro e w1 ⟨rfl, k1⟩; dsimp only) | go_values | go_skip | go_guarded | go_step | go_upon)
    go_ret
    exact ⟨by simp [goodR, h], k1⟩
  · have hd : decide ((l.length : Int) ≤ 64) = false := by simp; omega
    go_enter Try.func46, Try.ntmps46
    repeat (first | go_values | go_skip | go_guarded | go_step | go_upon)
    go_ret
    exact ⟨by simp [goodR, h], But.refl _ _ _⟩
set_option maxHeartbeats 4000000 in
theorem sgoodR (l : List Nat) (v : Value) (w : World) (hv : FltAt w v l) (hx : ∀ p ∈ l, p < 18446744073709551616) (hn : l.length ≤ 1048576) :
    Calls Try.prog 49 #[v] w fun e w' => e = .returned (.bool (goodR l)) ∧ Kept w w' := by
  obtain ⟨ao, cap, hsl⟩ := row_nil hv
  subst hsl
  have HV : Hid (FltAt w (.slice ao l.length cap) l) := hv
  clear hv
  by_cases h : l.length ≤ 64
  · have hd : decide ((64 : Int) < (l.length : Int)) = false := by simp; omega
    go_enter Try.func49, Try.ntmps49
    repeat (first | go_values | go_skip | go_guarded | go_step | go_upon)
    clear hd
    go_loopw [10] (fun i wr => ∃ k : Nat, k ≤ l.length ∧ i = .int .i64 k ∧ Hid ((l.take k).all good = true) ∧ Kept w wr) (fun i _ => l.length - (intOf i).toNat)
    case atStart => exact ⟨0, by omega, rfl, (by simp : (l.take 0).all good = true), But.refl _ _ _⟩
    case round =>
      obtain ⟨k, hk, rfl, HB, hkp⟩ := hrel
      have HK : Hid (Kept w wr) := hkp
      by_cases hlt : k < l.length
      · obtain ⟨x, hxk⟩ : ∃ x, l[k]? = some x := ⟨_, List.getElem?_eq_getElem hlt⟩
        obtain ⟨b, o, cap', e, c0⟩ := flt_get (HV.out.kept hkp) hxk
        cases e
        have hxb := hx x (List.mem_of_getElem? hxk)
        have HX : Hid (l[k]? = some x) := hxk
        clear hxk hkp
        cases hpx : good x
        · repeat (first | (go_at_call 48; refine (specGood x hxb _).mono ?_; rw [hpx]; rintro e w1 ⟨rfl, rfl⟩; dsimp only) | go_values | go_skip | go_guarded | go_step | go_upon)
          go_ret
          exact ⟨by simp [goodR, all_no HX.out hpx], HK.out⟩
        · repeat (first | (go_at_call 48; refine (specGood x hxb _).mono ?_; rw [hpx]; rintro e w1 ⟨rfl, rfl⟩; dsimp only) | go_values | go_skip | go_guarded | go_step | go_upon)
          refine ⟨⟨k + 1, hlt, by go_num, ?_, HK.out⟩, by simp [intOf]; omega⟩
          show (l.take (k + 1)).all good = true
          rw [all_take_snoc HX.out, HB.out, hpx]; rfl
      · have hke : k = l.length := by omega
        subst hke
        have hb := HB.out
        rw [List.take_length] at hb
        have HB2 : Hid (l.all good = true) := hb
        clear hb HB
        repeat (first | go_values | go_skip | go_guarded | go_step | go_upon)
        go_ret
        exact ⟨by simp only [goodR, h, HB2.out]; rfl, hkp⟩
  · have hd : decide ((64 : Int) < (l.length : Int)) = true := by simp; omega
    go_enter Try.func49, Try.ntmps49
    repeat (first | go_values | go_skip | go_guarded | go_step | go_upon)
    go_ret
    exact ⟨by simp [goodR, h], But.refl _ _ _⟩

end Go.Proofs.Ytghmnhohdbombaa
