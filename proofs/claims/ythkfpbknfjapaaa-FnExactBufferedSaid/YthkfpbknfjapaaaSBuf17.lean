/-
  Buffered in the specification.
-/
import Derived.Test.YthkfpbknfjapaaaBuf17
import Derived.Test.YthkfpbknfjapaaaMomS17
namespace Go.Proofs.Ythkfpbknfjapaaa
open Go.ChangeShapes Go.WideShapes Go.ChangeAt Go.RowKit

set_option maxRecDepth 100000
set_option linter.unusedVariables false

set_option maxHeartbeats 8000000 in
theorem sbuf (l : List MeantD) (a : ByteArray) (t win : Int) (v : Value) (w : World) (hv : MeantAt w v l) (hn : l.length ≤ 1048576) (hs : ∀ d ∈ l, d.2.1.size ≤ 1048576) (ha : a.size ≤ 1048576) :
    Calls Try.prog 36 #[v, .string a, .int .i64 t, .int .i64 win] w fun e w' => e = .returned (.tuple #[.int .i64 (bufA l a t win).1, .bool (bufA l a t win).2]) ∧ Kept w w' := by
  obtain ⟨ao, cap, hsl⟩ := row_nil hv
  subst hsl
  rcases (Classical.em (MomsP l)).symm with h1 | h1
  · have dm : dec (MomsP l) = false := dec_no h1
    rw [bufA_no (fun h => h1 h.1)]
    go_enter Try.func36, Try.ntmps36
    repeat (first | (go_at_call 76; refine (smoms l _ _ hv hn hs).mono ?_; rintro e w1 ⟨rfl, k1⟩; rw [dm]; dsimp only) | (go_at_call 55; refine (sname a _ ha).mono ?_; rintro e w3 ⟨rfl, hw3⟩; rw [hw3, dn]; clear hw3 w3; dsimp only) | (go_at_call 71; refine (sInG _ _ _ _).mono ?_; rintro e w3 ⟨rfl, hw3⟩; rw [hw3]; (first | rw [dt] | rw [dw]); clear hw3 w3; dsimp only) | go_values | go_skip | go_guarded | go_step | go_upon)
    go_ret2
    exact ⟨rfl, k1⟩
  have dm : dec (MomsP l) = true := dec_yes h1
  rcases (Classical.em (nameB a = true)).symm with h2 | h2
  · have dn : nameB a = false := Bool.eq_false_iff.2 h2
    rw [bufA_no (fun h => h2 h.2.1)]
    go_enter Try.func36, Try.ntmps36
    repeat (first | (go_at_call 76; refine (smoms l _ _ hv hn hs).mono ?_; rintro e w1 ⟨rfl, k1⟩; rw [dm]; dsimp only) | (go_at_call 55; refine (sname a _ ha).mono ?_; rintro e w3 ⟨rfl, hw3⟩; rw [hw3, dn]; clear hw3 w3; dsimp only) | (go_at_call 71; refine (sInG _ _ _ _).mono ?_; rintro e w3 ⟨rfl, hw3⟩; rw [hw3]; (first | rw [dt] | rw [dw]); clear hw3 w3; dsimp only) | go_values | go_skip | go_guarded | go_step | go_upon)
    go_ret2
    exact ⟨rfl, k1⟩
  have dn : nameB a = true := h2
  rcases (Classical.em (0 ≤ t ∧ t ≤ 100000)).symm with h3 | h3
  · have dt : decide (0 ≤ t ∧ t ≤ 100000) = false := decide_eq_false h3
    rw [bufA_no (fun h => h3 h.2.2.1)]
    go_enter Try.func36, Try.ntmps36
    repeat (first | (go_at_call 76; refine (smoms l _ _ hv hn hs).mono ?_; rintro e w1 ⟨rfl, k1⟩; rw [dm]; dsimp only) | (go_at_call 55; refine (sname a _ ha).mono ?_; rintro e w3 ⟨rfl, hw3⟩; rw [hw3, dn]; clear hw3 w3; dsimp only) | (go_at_call 71; refine (sInG _ _ _ _).mono ?_; rintro e w3 ⟨rfl, hw3⟩; rw [hw3]; (first | rw [dt] | rw [dw]); clear hw3 w3; dsimp only) | go_values | go_skip | go_guarded | go_step | go_upon)
    go_ret2
    exact ⟨rfl, k1⟩
  have dt : decide (0 ≤ t ∧ t ≤ 100000) = true := decide_eq_true h3
  rcases (Classical.em (0 ≤ win ∧ win ≤ 100000)).symm with h4 | h4
  · have dw : decide (0 ≤ win ∧ win ≤ 100000) = false := decide_eq_false h4
    rw [bufA_no (fun h => h4 h.2.2.2)]
    go_enter Try.func36, Try.ntmps36
    repeat (first | (go_at_call 76; refine (smoms l _ _ hv hn hs).mono ?_; rintro e w1 ⟨rfl, k1⟩; rw [dm]; dsimp only) | (go_at_call 55; refine (sname a _ ha).mono ?_; rintro e w3 ⟨rfl, hw3⟩; rw [hw3, dn]; clear hw3 w3; dsimp only) | (go_at_call 71; refine (sInG _ _ _ _).mono ?_; rintro e w3 ⟨rfl, hw3⟩; rw [hw3]; (first | rw [dt] | rw [dw]); clear hw3 w3; dsimp only) | go_values | go_skip | go_guarded | go_step | go_upon)
    go_ret2
    exact ⟨rfl, k1⟩
  have dw : decide (0 ≤ win ∧ win ≤ 100000) = true := decide_eq_true h4
  rw [bufA_yes ⟨h1, h2, h3, h4⟩]
  obtain ⟨h3a, h3b⟩ := h3
  obtain ⟨h4a, h4b⟩ := h4
  go_enter Try.func36, Try.ntmps36
  repeat (first | (go_at_call 76; refine (smoms l _ _ hv hn hs).mono ?_; rintro e w1 ⟨rfl, k1⟩; rw [dm]; dsimp only) | (go_at_call 55; refine (sname a _ ha).mono ?_; rintro e w3 ⟨rfl, hw3⟩; rw [hw3, dn]; clear hw3 w3; dsimp only) | (go_at_call 71; refine (sInG _ _ _ _).mono ?_; rintro e w3 ⟨rfl, hw3⟩; rw [hw3]; (first | rw [dt] | rw [dw]); clear hw3 w3; dsimp only) | go_values | go_skip | go_guarded | go_step | go_upon)
  clear dm dn dt dw h1 h2
  go_loopw [10, 33] (fun kk i wr => ∃ (k : Nat), k ≤ l.length ∧ i = .int .i64 k ∧ kk = .int .i64 (bufK l a t win k) ∧ Kept w wr) (fun kk i _ => l.length - (intOf i).toNat)
  case atStart => exact ⟨0, by omega, rfl, rfl, k1⟩
  case round =>
    obtain ⟨j, hk, rfl, rfl, hkp⟩ := hrel
    by_cases hlt : j < l.length
    · obtain ⟨d, hd⟩ : ∃ p, l[j]? = some p := ⟨_, List.getElem?_eq_getElem hlt⟩
      obtain ⟨b, o, cap', ee, c0, c1, c2⟩ := meant_get (hv.kept hkp) hd
      cases ee
      have HP : Hid (l[j]? = some d) := hd
      have HK : Hid (Kept w wr) := hkp
      obtain ⟨t0, nm, on⟩ := d
      dsimp only at c0 c1 c2
      clear hkp hv hs hd k1
      cases on with
      | false =>
        have hh : Hid (bufK l a t win (j + 1) = bufK l a t win j) := buf_no HP.out (by simp [hitB])
        repeat (first | go_values | go_skip | go_guarded | go_step | go_upon)
        exact ⟨⟨j + 1, hlt, by go_num, by rw [hh.out], HK.out.alloc _⟩, by simp [intOf]; omega⟩
      | true =>
        cases q2 : (nm.toList == a.toList) with
        | false =>
          have hh : Hid (bufK l a t win (j + 1) = bufK l a t win j) := buf_no HP.out (by simp [hitB, q2])
          repeat (first | go_values | go_skip | go_guarded | go_step | go_upon)
          exact ⟨⟨j + 1, hlt, by go_num, by rw [hh.out], HK.out.alloc _⟩, by simp [intOf]; omega⟩
        | true =>
          cases q3 : decide (t - win ≤ t0 ∧ t0 ≤ t) with
          | false =>
            have hh : Hid (bufK l a t win (j + 1) = bufK l a t win j) := buf_no HP.out (by simp only [hitB, q3, Bool.and_false])
            repeat (first | (go_at_call 71; refine (sInG _ _ _ _).mono ?_; rintro e w3 ⟨rfl, hw3⟩; rw [hw3, q3]; clear hw3 w3; dsimp only) | go_values | go_skip | go_guarded | go_step | go_upon)
            exact ⟨⟨j + 1, hlt, by go_num, by rw [hh.out], HK.out.alloc _⟩, by simp [intOf]; omega⟩
          | true =>
            have hh : Hid (bufK l a t win (j + 1) = (j : Int)) := buf_yes HP.out (by simp only [hitB, q2, q3, Bool.and_true])
            repeat (first | (go_at_call 71; refine (sInG _ _ _ _).mono ?_; rintro e w3 ⟨rfl, hw3⟩; rw [hw3, q3]; clear hw3 w3; dsimp only) | go_values | go_skip | go_guarded | go_step | go_upon)
            exact ⟨⟨j + 1, hlt, by go_num, by rw [hh.out], HK.out.alloc _⟩, by simp [intOf]; omega⟩
    · have hke : j = l.length := by omega
      subst hke
      have HK : Hid (Kept w wr) := hkp
      clear hkp
      repeat (first | go_values | go_skip | go_guarded | go_step | go_upon)
      go_ret2
      exact ⟨rfl, HK.out⟩

end Go.Proofs.Ythkfpbknfjapaaa
