/-
  HeldAt in the program.
-/
import Derived.Test.YthkfpbknfjapaaaHeldB17
import Derived.Test.YthkfpbknfjapaaaSorted17
import Derived.Test.YthkfpbknfjapaaaPrsI17
import Derived.Test.YthkfpbknfjapaaaApp17
namespace Go.Proofs.Ythkfpbknfjapaaa
open Go.ChangeShapes Go.WideShapes Go.ChangeAt Go.RowKit

set_option maxRecDepth 100000
set_option linter.unusedVariables false

set_option maxHeartbeats 8000000 in
theorem iheld (l : List PressD) (t : Int) (v : Value) (w : World) (hv : PressAt w v l) (hn : l.length ≤ 1048576) :
    Calls Try.prog 33 #[v, .int .i64 t] w fun e w' => ∃ v', e = .returned (.tuple #[v', .bool (heldA l t).2]) ∧ NumO w' w.heap.size w'.heap.size v' (heldA l t).1 ∧ Kept w w' := by
  obtain ⟨ao, cap, hsl⟩ := row_nil hv
  subst hsl
  rcases (Classical.em (PrssP l)).symm with h1 | h1
  · have dm : dec (PrssP l) = false := dec_no h1
    rw [heldA_no (fun h => h1 h.1)]
    go_enter Try.func33, Try.ntmps33
    repeat (first | (go_at_call 47; refine (iprss l _ _ hv hn).mono ?_; rintro e w1 ⟨rfl, k1⟩; rw [dm]; dsimp only) | go_values | go_skip | go_guarded | go_step | go_upon)
    go_ret2
    exact ⟨_, rfl, nil_num _ _ _, k1⟩
  have dm : dec (PrssP l) = true := dec_yes h1
  rcases (Classical.em (0 ≤ t ∧ t ≤ 100000)).symm with h2 | h2
  · have dt : decide (0 ≤ t ∧ t ≤ 100000) = false := decide_eq_false h2
    rw [heldA_no (fun h => h2 h.2)]
    go_enter Try.func33, Try.ntmps33
    repeat (first | (go_at_call 47; refine (iprss l _ _ hv hn).mono ?_; rintro e w1 ⟨rfl, k1⟩; rw [dm]; dsimp only) | (go_at_call 72; refine (itime _ _).mono ?_; rintro e w3 ⟨rfl, hw3⟩; rw [hw3, dt]; clear hw3 w3; dsimp only) | go_values | go_skip | go_guarded | go_step | go_upon)
    go_ret2
    exact ⟨_, rfl, nil_num _ _ _, k1⟩
  have dt : decide (0 ≤ t ∧ t ≤ 100000) = true := decide_eq_true h2
  rw [heldA_yes ⟨h1, h2⟩]
  have h200 := h1.1
  have HP1 : Hid (PrssP l) := h1
  have hmm := @run_makeMap Try.prog
  go_enter Try.func33, Try.ntmps33
  repeat (first | (go_at_call 47; refine (iprss l _ _ hv hn).mono ?_; rintro e w1 ⟨rfl, k1⟩; rw [dm]; dsimp only) | (go_at_call 72; refine (itime _ _).mono ?_; rintro e w3 ⟨rfl, hw3⟩; rw [hw3, dt]; clear hw3 w3; dsimp only) | go_values | go_skip | go_guarded | go_step | go_upon)
  clear dm dt h1 h2 hmm
  have s1 := k1.size
  have KM := KeysM.made w1
  have K1 : Kept w (w1.alloc (.map #[] 0)) := k1.alloc _
  obtain ⟨B, hB⟩ : ∃ B, w1.heap.size = B := ⟨_, rfl⟩
  rw [hB] at KM s1 ⊢
  go_loopw [20] (fun i wr => ∃ (k : Nat), k ≤ l.length ∧ i = .int .i64 k ∧ KeysM wr B k (heldK l t k) ∧ Kept w wr) (fun i _ => l.length - (intOf i).toNat)
  case atStart => exact ⟨0, by omega, rfl, KM, K1⟩
  case round =>
    obtain ⟨k, hk, rfl, km, hkp⟩ := hrel
    have hlen := held_len l t k
    by_cases hlt : k < l.length
    · obtain ⟨d, hd⟩ : ∃ p, l[k]? = some p := ⟨_, List.getElem?_eq_getElem hlt⟩
      obtain ⟨b, o, cap', ee, c0, c1, c2⟩ := press_get (hv.kept hkp) hd
      cases ee
      have hky := prss_key HP1.out hd
      have HY : Hid (d.1 ≤ t → heldK l t (k + 1) = pressL (heldK l t k) d) := fun h => held_yes hd h
      have HNO : Hid (¬ d.1 ≤ t → heldK l t (k + 1) = heldK l t k) := fun h => held_no hd h
      obtain ⟨t0, ky, dn⟩ := d
      dsimp only at c0 c1 c2 HY HNO hky
      have HM : Hid (KeysM wr B k (heldK l t k)) := km
      have HK : Hid (Kept w wr) := hkp
      have HC : Hid (Calls Try.prog 48 #[.map (some B), .agg #[.int .i64 t0, .int .i64 ky, .bool dn]] (wr.alloc (.cells #[.int .i64 t0, .int .i64 ky, .bool dn] 82)) fun e w' => e = .returned (.tuple #[]) ∧ KeysM w' B (k + 1) (pressL (heldK l t k) (t0, ky, dn)) ∧ But B (B + 1) (wr.alloc (.cells #[.int .i64 t0, .int .i64 ky, .bool dn] 82)) w') := ihear (heldK l t k) t0 ky dn B k _ (km.kept ((But.refl _ _ _).alloc _)) hky.1 hky.2 (by omega)
      clear km hkp hd k1 hv KM K1
      by_cases hq : t0 ≤ t
      · have dq : decide (t0 ≤ t) = true := decide_eq_true hq
        repeat (first | (go_at_call 48; refine HC.out.mono ?_; rintro e w2 ⟨rfl, m2, b2⟩; dsimp only; have M2 : Hid (KeysM w2 B (k + 1) (pressL (heldK l t k) (t0, ky, dn))) := m2; have K2 : Hid (Kept w w2) := But.onto (HK.out.alloc _) b2 (by omega); clear m2 b2) | go_values | go_skip | go_guarded | go_step | go_upon)
        exact ⟨⟨k + 1, hlt, by go_num, by rw [HY.out hq]; exact M2.out, K2.out⟩, by simp [intOf]; omega⟩
      · have dq : decide (t0 ≤ t) = false := decide_eq_false hq
        repeat (first | go_values | go_skip | go_guarded | go_step | go_upon)
        exact ⟨⟨k + 1, hlt, by go_num, by rw [HNO.out hq]; exact (HM.out.kept ((But.refl _ _ _).alloc _)).mono (by omega), HK.out.alloc _⟩, by simp [intOf]; omega⟩
    · have hke : k = l.length := by omega
      subst hke
      have HM : Hid (KeysM wr B l.length (heldK l t l.length)) := km
      have HK : Hid (Kept w wr) := hkp
      have hr := rises_held l t l.length
      have hbd := held_bd HP1.out t l.length
      have L0 := Loc.new wr [.map (some B)] 78
      have HS : Hid (Calls Try.prog 73 #[.func (.func 106) #[] #[.pointer (some ⟨wr.heap.size, 0, none⟩)]] (wr.alloc (.cells #[.map (some B)] 78)) fun e w' => ∃ v', e = .returned v' ∧ NumO w' (wr.alloc (.cells #[.map (some B)] 78)).heap.size w'.heap.size v' (heldK l t l.length) ∧ Kept (wr.alloc (.cells #[.map (some B)] 78)) w') := isorted (heldK l t l.length) wr.heap.size B l.length _ (km.kept ((But.refl _ _ _).alloc _)) hr (by omega) hbd (L0.cell 0 rfl)
      have sz := hkp.size
      clear km hkp k1 hv KM K1 hr hbd L0
      repeat (first
        | (go_at_call 74; refine (ikeys _ _).mono ?_; rintro e w3 ⟨rfl, hw3⟩; rw [hw3]; clear hw3 w3; dsimp only)
        | (go_at_call 73; refine HS.out.mono ?_; rintro e w4 ⟨v4, rfl, o4, k4⟩; simp only [World.size_alloc] at o4; obtain ⟨a4, p4, hf⟩ := o4.form; subst hf; have O4 : Hid (NumO w4 (wr.heap.size + 1) w4.heap.size (.slice a4 (heldK l t l.length).length p4) (heldK l t l.length)) := o4; have K4 : Hid (Kept w w4) := (HK.out.alloc _).trans k4; clear o4 k4; dsimp only)
        | go_values | go_skip | go_guarded | go_step | go_upon)
      go_ret2
      exact ⟨_, rfl, O4.out.mono (by omega) (Nat.le_refl _), K4.out⟩

end Go.Proofs.Ythkfpbknfjapaaa
