/-
  HeldAt in the specification.
-/
import Derived.Test.YthkfpbknfjapaaaSPr17
import Derived.Test.YthkfpbknfjapaaaPrsS17
namespace Go.Proofs.Ythkfpbknfjapaaa
open Go.ChangeShapes Go.WideShapes Go.ChangeAt Go.RowKit

set_option maxRecDepth 100000
set_option linter.unusedVariables false

set_option maxHeartbeats 8000000 in
theorem sheld (l : List PressD) (t : Int) (v : Value) (w : World) (hv : PressAt w v l) (hn : l.length ≤ 1048576) :
    Calls Try.prog 32 #[v, .int .i64 t] w fun e w' => ∃ v', e = .returned (.tuple #[v', .bool (heldA l t).2]) ∧ NumO w' w.heap.size w'.heap.size v' (heldA l t).1 ∧ Kept w w' := by
  obtain ⟨ao, cap, hsl⟩ := row_nil hv
  subst hsl
  rcases (Classical.em (PrssP l)).symm with h1 | h1
  · have dm : dec (PrssP l) = false := dec_no h1
    rw [heldA_no (fun h => h1 h.1)]
    go_enter Try.func32, Try.ntmps32
    repeat (first | (go_at_call 51; refine (sprss l _ _ hv hn).mono ?_; rintro e w1 ⟨rfl, k1⟩; rw [dm]; dsimp only) | go_values | go_skip | go_guarded | go_step | go_upon)
    go_ret2
    exact ⟨_, rfl, nil_num _ _ _, k1⟩
  have dm : dec (PrssP l) = true := dec_yes h1
  rcases (Classical.em (0 ≤ t ∧ t ≤ 100000)).symm with h2 | h2
  · have dt : decide (0 ≤ t ∧ t ≤ 100000) = false := decide_eq_false h2
    rw [heldA_no (fun h => h2 h.2)]
    go_enter Try.func32, Try.ntmps32
    repeat (first | (go_at_call 51; refine (sprss l _ _ hv hn).mono ?_; rintro e w1 ⟨rfl, k1⟩; rw [dm]; dsimp only) | (go_at_call 71; refine (sInG _ _ _ _).mono ?_; rintro e w3 ⟨rfl, hw3⟩; rw [hw3, dt]; clear hw3 w3; dsimp only) | go_values | go_skip | go_guarded | go_step | go_upon)
    go_ret2
    exact ⟨_, rfl, nil_num _ _ _, k1⟩
  have dt : decide (0 ≤ t ∧ t ≤ 100000) = true := decide_eq_true h2
  rw [heldA_yes ⟨h1, h2⟩]
  have h200 := h1.1
  go_enter Try.func32, Try.ntmps32
  repeat (first | (go_at_call 51; refine (sprss l _ _ hv hn).mono ?_; rintro e w1 ⟨rfl, k1⟩; rw [dm]; dsimp only) | (go_at_call 71; refine (sInG _ _ _ _).mono ?_; rintro e w3 ⟨rfl, hw3⟩; rw [hw3, dt]; clear hw3 w3; dsimp only) | go_values | go_skip | go_guarded | go_step | go_upon)
  clear dm dt h1 h2
  go_loopw [6, 19] (fun hv i wr => ∃ (k : Nat) (ah : Option Addr) (ch : Nat), k ≤ l.length ∧ i = .int .i64 k ∧ hv = .slice ah (heldK l t k).length ch ∧ NumAt wr (.slice ah (heldK l t k).length ch) (heldK l t k) ∧ Hid ((heldK l t k).length ≤ ch ∧ ch ≤ 9223372036854775807) ∧ Kept w wr) (fun hv i _ => l.length - (intOf i).toNat)
  case atStart => exact ⟨0, none, 0, by omega, rfl, rfl, (nil_num w1 0 0).at, (show (0 : Nat) ≤ 0 ∧ 0 ≤ 9223372036854775807 by omega), k1⟩
  case round =>
    obtain ⟨k, ah, ch, hk, rfl, rfl, hh, HC, hkp⟩ := hrel
    have hlen := held_len l t k
    by_cases hlt : k < l.length
    · obtain ⟨d, hd⟩ : ∃ p, l[k]? = some p := ⟨_, List.getElem?_eq_getElem hlt⟩
      obtain ⟨b, o, cap', ee, c0, c1, c2⟩ := press_get (hv.kept hkp) hd
      cases ee
      obtain ⟨A, hA⟩ : ∃ A, heldK l t k = A := ⟨_, rfl⟩
      have HY : Hid (d.1 ≤ t → heldK l t (k + 1) = pressL A d) := fun h => by rw [held_yes hd h, hA]
      have HNO : Hid (¬ d.1 ≤ t → heldK l t (k + 1) = A) := fun h => by rw [held_no hd h, hA]
      rw [hA] at hh HC hlen ⊢
      obtain ⟨t0, ky, dn⟩ := d
      dsimp only at c0 c1 c2 HY HNO
      have HH : Hid (NumAt wr (.slice ah A.length ch) A) := hh
      have HK : Hid (Kept w wr) := hkp
      clear hh hkp hd hA k1 hv
      by_cases hq : t0 ≤ t
      · have dq : decide (t0 ≤ t) = true := decide_eq_true hq
        have HR := HY.out hq
        obtain ⟨R, hR⟩ : ∃ R, pressL A (t0, ky, dn) = R := ⟨_, rfl⟩
        have HP : Hid (∀ W, Kept wr W → Calls Try.prog 52 #[.slice ah A.length ch, .agg #[.int .i64 t0, .int .i64 ky, .bool dn]] W fun e w' => ∃ ao' cap', e = .returned (.slice ao' R.length cap') ∧ NumAt w' (.slice ao' R.length cap') R ∧ (R.length ≤ cap' ∧ cap' ≤ 9223372036854775807) ∧ Kept W w') := fun W k => by rw [← hR]; exact spress A t0 ky dn ah ch W (HH.out.kept k) HC.out (by omega)
        rw [hR] at HR
        have HR : Hid (heldK l t (k + 1) = R) := HR
        clear hR HY HNO
        repeat (first | (go_at_call 52; refine (HP.out _ ((But.refl _ _ _).alloc _)).mono ?_; rintro e w2 ⟨a2, p2, rfl, h1, h2, k2⟩; dsimp only; have H1 : Hid (NumAt w2 (.slice a2 R.length p2) R) := h1; have H2 : Hid (R.length ≤ p2 ∧ p2 ≤ 9223372036854775807) := h2; have K2 : Hid (Kept w w2) := (HK.out.alloc _).trans k2; clear h1 h2 k2) | go_values | go_skip | go_guarded | go_step | go_upon)
        refine ⟨⟨k + 1, a2, p2, hlt, by go_num, ?_, ?_, ?_, K2.out⟩, by simp [intOf]; omega⟩
        · rw [HR.out]
        · rw [HR.out]; exact H1.out
        · rw [HR.out]; exact H2
      · have dq : decide (t0 ≤ t) = false := decide_eq_false hq
        have HR : Hid (heldK l t (k + 1) = A) := HNO.out hq
        clear HY HNO
        repeat (first | go_values | go_skip | go_guarded | go_step | go_upon)
        refine ⟨⟨k + 1, ah, ch, hlt, by go_num, ?_, ?_, ?_, HK.out.alloc _⟩, by simp [intOf]; omega⟩
        · rw [HR.out]
        · rw [HR.out]; exact HH.out.kept ((But.refl _ _ _).alloc _)
        · rw [HR.out]; exact HC
    · have hke : k = l.length := by omega
      subst hke
      obtain ⟨A, hA⟩ : ∃ A, heldK l t l.length = A := ⟨_, rfl⟩
      rw [hA] at hh HC hlen ⊢
      have HH : Hid (NumAt wr (.slice ah A.length ch) A) := hh
      have HK : Hid (Kept w wr) := hkp
      have HAe : Hid (heldK l t l.length = A) := hA
      clear hh hkp hA k1 hv
      repeat (first | (at_builtin; refine forgetL (fun w' => w' = _) rfl ?_) | go_values | go_skip | go_guarded | go_step | go_upon)
      intro W7 hW7
      rw [hW7]
      clear hW7 W7
      refine app_num rfl _ _ rfl (lo := wr.heap.size) (hi := wr.heap.size + 1) rfl (own_empty wr) rfl (HH.out.kept ((But.refl _ _ wr).alloc _)) rfl (by simp; omega) (by simp) ?_
      intro v2 w2 o2 b2
      simp only [List.nil_append] at o2
      have k2 : Kept wr w2 := But.onto ((But.refl _ _ wr).alloc _) b2 (Nat.le_refl _)
      have s2 := HK.out.size
      obtain ⟨a5, p5, hf⟩ := o2.form
      subst hf
      have HO : Hid (NumO w2 wr.heap.size w2.heap.size (.slice a5 A.length p5) A) := o2
      have HK2 : Hid (Kept w w2) := HK.out.trans k2
      clear o2 b2 k2
      repeat (first | go_values | go_skip | go_guarded | go_step | go_upon)
      go_ret2
      dsimp only
      rw [HAe.out]
      exact ⟨_, rfl, HO.out.mono s2 (Nat.le_refl _), HK2.out⟩

end Go.Proofs.Ythkfpbknfjapaaa
