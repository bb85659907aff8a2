/-
  Good voices, all of a list: the specification and the program.
-/
import Derived.Test.YtapfafibhjpkdaaVoices
import Derived.Test.YtapfafibhjpkdaaGoodW15
namespace Go.Proofs.Ytapfafibhjpkdaa
open Go.ChangeShapes Go.WideShapes Go.ChangeAt Go.RowKit

set_option maxRecDepth 100000
set_option linter.unusedVariables false
def VoicesP (ds : List VoiceD) : Prop := ds.length ≤ 8 ∧ ∀ (i : Nat) (d : VoiceD), ds[i]? = some d → VoiceQ d

set_option maxHeartbeats 2000000 in
theorem svoices (ds : List VoiceD) (v : Value) (w : World) (hv : VoicesAt w v ds) (hn : voicesCost ds ≤ 1048576) :
    Calls Try.prog 45 #[v] w fun e w' => e = .returned (.bool (dec (VoicesP ds))) ∧ Kept w w' := by
  obtain ⟨ao, cap, hsl⟩ := hv.form
  subst hsl
  have hcs : Hid (∀ d ∈ ds, d.1.length ≤ 1048576) := fun d hd => by
    have := voices_one hd
    unfold voicesOne at this
    omega
  have hln : ds.length ≤ 1048576 := by unfold voicesCost at hn; omega
  clear hn
  have NO : Hid (¬ VoicesP ds → dec (VoicesP ds) = false) := dec_no
  have YES : Hid (VoicesP ds → dec (VoicesP ds) = true) := dec_yes
  generalize dec (VoicesP ds) = R at *
  by_cases h1 : 8 < ds.length
  · rw [NO.out fun h => by have := h.1; omega]
    go_enter Try.func45, Try.ntmps45
    go_wp2
    go_ret
    exact ⟨rfl, But.refl _ _ _⟩
  go_enter Try.func45, Try.ntmps45
  go_wp2
  go_loopw [10] (fun i wr => ∃ (k : Nat), k ≤ ds.length ∧ i = .int .i64 k ∧ Hid (∀ (i : Nat) (d : VoiceD), i < k → ds[i]? = some d → VoiceQ d) ∧ Kept w wr) (fun i _ => ds.length - (intOf i).toNat)
  case atStart => exact ⟨0, by omega, rfl, fun j d hj => by omega, But.refl _ _ _⟩
  case round =>
    obtain ⟨j, hk, rfl, HB, hkp⟩ := hrel
    by_cases hlt : j < ds.length
    · obtain ⟨d, hd⟩ : ∃ p, ds[j]? = some p := ⟨_, List.getElem?_eq_getElem hlt⟩
      obtain ⟨b, o, cap', s, ee, c0, c1, c2, c3, c4, c5, hka⟩ := (hv.kept hkp).get hd
      cases ee
      have hsz := hcs.out d (List.mem_of_getElem? hd)
      have HP : Hid (ds[j]? = some d) := hd
      have HK : Hid (Kept w wr) := hkp
      obtain ⟨l, a, lp, lf, rt, rk⟩ := d
      dsimp only at c0 c1 c2 c3 c4 c5 hka hsz
      obtain ⟨a3, p3, hsl⟩ := row_nil hka
      subst hsl
      have HG : Hid (∀ W, Kept wr W → Calls Try.prog 10 #[.agg #[.slice a3 l.length p3, .int .i64 a, .bool lp, .int .i64 lf, .int .i64 rt, .int .i64 rk]] W fun e w' => e = .returned (.bool (dec (VoiceP l a lf rt rk))) ∧ Kept W w') := fun W k => sgoodV _ l a lp lf rt rk W (hka.kept k) hsz
      clear hd hka hkp hv
      cases q1 : dec (VoiceP l a lf rt rk) with
      | false =>
        have hR := NO.out (fun h => of_dec_no q1 (h.2 j _ HP.out))
        subst hR
        repeat (first | (go_at_call 10; refine (HG.out _ ((But.refl _ _ _).alloc _)).mono ?_; rintro e w3 ⟨rfl, k3⟩; rw [q1]; dsimp only) | go_values | go_skip | go_guarded | go_step | go_upon)
        go_ret
        exact ⟨rfl, (HK.out.alloc _).trans k3⟩
      | true =>
        repeat (first | (go_at_call 10; refine (HG.out _ ((But.refl _ _ _).alloc _)).mono ?_; rintro e w3 ⟨rfl, k3⟩; rw [q1]; dsimp only) | go_values | go_skip | go_guarded | go_step | go_upon)
        refine ⟨⟨j + 1, hlt, by go_num, fun i d hi hd => ?_, (HK.out.alloc _).trans k3⟩, by simp [intOf]; omega⟩
        by_cases hij : i = j
        · subst hij
          rw [HP.out] at hd
          cases hd
          exact of_dec q1
        · exact HB.out i d (by omega) hd
    · have hke : j = ds.length := by omega
      subst hke
      have hR := YES.out ⟨by omega, fun i d hd => HB.out i d (List.getElem?_eq_some_iff.1 hd).1 hd⟩
      subst hR
      have HK : Hid (Kept w wr) := hkp
      clear hkp
      repeat (first | go_values | go_skip | go_guarded | go_step | go_upon)
      go_ret
      exact ⟨rfl, HK.out⟩

set_option maxHeartbeats 2000000 in
theorem ivoices (ds : List VoiceD) (v : Value) (w : World) (hv : VoicesAt w v ds) (hn : voicesCost ds ≤ 1048576) :
    Calls Try.prog 49 #[v] w fun e w' => e = .returned (.bool (dec (VoicesP ds))) ∧ Kept w w' := by
  obtain ⟨ao, cap, hsl⟩ := hv.form
  subst hsl
  have hcs : Hid (∀ d ∈ ds, d.1.length ≤ 1048576) := fun d hd => by
    have := voices_one hd
    unfold voicesOne at this
    omega
  have hln : ds.length ≤ 1048576 := by unfold voicesCost at hn; omega
  clear hn
  have NO : Hid (¬ VoicesP ds → dec (VoicesP ds) = false) := dec_no
  have YES : Hid (VoicesP ds → dec (VoicesP ds) = true) := dec_yes
  generalize dec (VoicesP ds) = R at *
  by_cases h1 : 8 < ds.length
  · rw [NO.out fun h => by have := h.1; omega]
    go_enter Try.func49, Try.ntmps49
    go_wp2
    go_ret
    exact ⟨rfl, But.refl _ _ _⟩
  go_enter Try.func49, Try.ntmps49
  go_wp2
  go_loopw [10] (fun i wr => ∃ (k : Nat), k ≤ ds.length ∧ i = .int .i64 k ∧ Hid (∀ (i : Nat) (d : VoiceD), i < k → ds[i]? = some d → VoiceQ d) ∧ Kept w wr) (fun i _ => ds.length - (intOf i).toNat)
  case atStart => exact ⟨0, by omega, rfl, fun j d hj => by omega, But.refl _ _ _⟩
  case round =>
    obtain ⟨j, hk, rfl, HB, hkp⟩ := hrel
    by_cases hlt : j < ds.length
    · obtain ⟨d, hd⟩ : ∃ p, ds[j]? = some p := ⟨_, List.getElem?_eq_getElem hlt⟩
      obtain ⟨b, o, cap', s, ee, c0, c1, c2, c3, c4, c5, hka⟩ := (hv.kept hkp).get hd
      cases ee
      have hsz := hcs.out d (List.mem_of_getElem? hd)
      have HP : Hid (ds[j]? = some d) := hd
      have HK : Hid (Kept w wr) := hkp
      obtain ⟨l, a, lp, lf, rt, rk⟩ := d
      dsimp only at c0 c1 c2 c3 c4 c5 hka hsz
      obtain ⟨a3, p3, hsl⟩ := row_nil hka
      subst hsl
      have HG : Hid (∀ W, Kept wr W → Calls Try.prog 12 #[.agg #[.slice a3 l.length p3, .int .i64 a, .bool lp, .int .i64 lf, .int .i64 rt, .int .i64 rk]] W fun e w' => e = .returned (.bool (dec (VoiceP l a lf rt rk))) ∧ Kept W w') := fun W k => igoodV _ l a lp lf rt rk W (hka.kept k) hsz
      clear hd hka hkp hv
      cases q1 : dec (VoiceP l a lf rt rk) with
      | false =>
        have hR := NO.out (fun h => of_dec_no q1 (h.2 j _ HP.out))
        subst hR
        repeat (first | (go_at_call 12; refine (HG.out _ ((But.refl _ _ _).alloc _)).mono ?_; rintro e w3 ⟨rfl, k3⟩; rw [q1]; dsimp only) | go_values | go_skip | go_guarded | go_step | go_upon)
        go_ret
        exact ⟨rfl, (HK.out.alloc _).trans k3⟩
      | true =>
        repeat (first | (go_at_call 12; refine (HG.out _ ((But.refl _ _ _).alloc _)).mono ?_; rintro e w3 ⟨rfl, k3⟩; rw [q1]; dsimp only) | go_values | go_skip | go_guarded | go_step | go_upon)
        refine ⟨⟨j + 1, hlt, by go_num, fun i d hi hd => ?_, (HK.out.alloc _).trans k3⟩, by simp [intOf]; omega⟩
        by_cases hij : i = j
        · subst hij
          rw [HP.out] at hd
          cases hd
          exact of_dec q1
        · exact HB.out i d (by omega) hd
    · have hke : j = ds.length := by omega
      subst hke
      have hR := YES.out ⟨by omega, fun i d hd => HB.out i d (List.getElem?_eq_some_iff.1 hd).1 hd⟩
      subst hR
      have HK : Hid (Kept w wr) := hkp
      clear hkp
      repeat (first | go_values | go_skip | go_guarded | go_step | go_upon)
      go_ret
      exact ⟨rfl, HK.out⟩

end Go.Proofs.Ytapfafibhjpkdaa
