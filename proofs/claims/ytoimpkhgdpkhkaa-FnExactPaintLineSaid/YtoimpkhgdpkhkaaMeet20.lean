/-
  Whether two boxes meet, on both sides.
-/
import Derived.Test.YtoimpkhgdpkhkaaLeaf20
namespace Go.Proofs.Ytoimpkhgdpkhkaa
open Go.ChangeShapes Go.WideShapes Go.ChangeAt Go.RowKit

set_option maxRecDepth 100000
set_option linter.unusedVariables false
set_option linter.unusedSimpArgs false

set_option maxHeartbeats 4000000 in
theorem smeet (x y a b x' y' a' b' : Int) (w : World) (hP : BoxP x y a b) (hQ : BoxP x' y' a' b') : Calls Try.prog 39 #[.agg #[.int .i64 x, .int .i64 y, .int .i64 a, .int .i64 b], .agg #[.int .i64 x', .int .i64 y', .int .i64 a', .int .i64 b']] w fun e w' => e = .returned (.bool (decide (MeetP x y a b x' y' a' b'))) ∧ Kept w w' := by
  obtain ⟨⟨q1, q2⟩, ⟨q3, q4⟩, ⟨q5, q6⟩, q7, q8⟩ := hP
  obtain ⟨⟨r1, r2⟩, ⟨r3, r4⟩, ⟨r5, r6⟩, r7, r8⟩ := hQ
  obtain ⟨R, hR⟩ : ∃ R : Bool, decide (MeetP x y a b x' y' a' b') = R := ⟨_, rfl⟩
  rw [hR]
  have HR : Hid (decide (MeetP x y a b x' y' a' b') = R) := hR
  clear hR
  rcases (Decidable.em (0 < a)).symm with h0 | h0
  · have d0 : decide (0 < a) = false := decide_eq_false h0
    have hF : R = false := by rw [← HR.out]; exact decide_eq_false (fun hh => h0 (by (try simp only [ItemP, HeadP, BoxP, MeetP] at hh); (try simp only [ItemP, HeadP, BoxP, MeetP]); omega))
    subst hF
    have HX : Hid _ := h0
    clear h0
    go_enter Try.func39, Try.ntmps39
    repeat (first | fail | go_values | go_skip | go_guarded | go_step | go_upon)
    go_ret
    exact ⟨rfl, ((But.refl _ _ _).alloc _).alloc _⟩
  have d0 : decide (0 < a) = true := decide_eq_true h0
  rcases (Decidable.em (0 < b)).symm with h1 | h1
  · have d1 : decide (0 < b) = false := decide_eq_false h1
    have hF : R = false := by rw [← HR.out]; exact decide_eq_false (fun hh => h1 (by (try simp only [ItemP, HeadP, BoxP, MeetP] at hh); (try simp only [ItemP, HeadP, BoxP, MeetP]); omega))
    subst hF
    have HX : Hid _ := h1
    clear h1
    go_enter Try.func39, Try.ntmps39
    repeat (first | fail | go_values | go_skip | go_guarded | go_step | go_upon)
    go_ret
    exact ⟨rfl, ((But.refl _ _ _).alloc _).alloc _⟩
  have d1 : decide (0 < b) = true := decide_eq_true h1
  rcases (Decidable.em (0 < a')).symm with h2 | h2
  · have d2 : decide (0 < a') = false := decide_eq_false h2
    have hF : R = false := by rw [← HR.out]; exact decide_eq_false (fun hh => h2 (by (try simp only [ItemP, HeadP, BoxP, MeetP] at hh); (try simp only [ItemP, HeadP, BoxP, MeetP]); omega))
    subst hF
    have HX : Hid _ := h2
    clear h2
    go_enter Try.func39, Try.ntmps39
    repeat (first | fail | go_values | go_skip | go_guarded | go_step | go_upon)
    go_ret
    exact ⟨rfl, ((But.refl _ _ _).alloc _).alloc _⟩
  have d2 : decide (0 < a') = true := decide_eq_true h2
  rcases (Decidable.em (0 < b')).symm with h3 | h3
  · have d3 : decide (0 < b') = false := decide_eq_false h3
    have hF : R = false := by rw [← HR.out]; exact decide_eq_false (fun hh => h3 (by (try simp only [ItemP, HeadP, BoxP, MeetP] at hh); (try simp only [ItemP, HeadP, BoxP, MeetP]); omega))
    subst hF
    have HX : Hid _ := h3
    clear h3
    go_enter Try.func39, Try.ntmps39
    repeat (first | fail | go_values | go_skip | go_guarded | go_step | go_upon)
    go_ret
    exact ⟨rfl, ((But.refl _ _ _).alloc _).alloc _⟩
  have d3 : decide (0 < b') = true := decide_eq_true h3
  rcases (Decidable.em (x < x' + a')).symm with h4 | h4
  · have d4 : decide (x < x' + a') = false := decide_eq_false h4
    have hF : R = false := by rw [← HR.out]; exact decide_eq_false (fun hh => h4 (by (try simp only [ItemP, HeadP, BoxP, MeetP] at hh); (try simp only [ItemP, HeadP, BoxP, MeetP]); omega))
    subst hF
    have HX : Hid _ := h4
    clear h4
    go_enter Try.func39, Try.ntmps39
    repeat (first | fail | go_values | go_skip | go_guarded | go_step | go_upon)
    go_ret
    exact ⟨rfl, ((But.refl _ _ _).alloc _).alloc _⟩
  have d4 : decide (x < x' + a') = true := decide_eq_true h4
  rcases (Decidable.em (x' < x + a)).symm with h5 | h5
  · have d5 : decide (x' < x + a) = false := decide_eq_false h5
    have hF : R = false := by rw [← HR.out]; exact decide_eq_false (fun hh => h5 (by (try simp only [ItemP, HeadP, BoxP, MeetP] at hh); (try simp only [ItemP, HeadP, BoxP, MeetP]); omega))
    subst hF
    have HX : Hid _ := h5
    clear h5
    go_enter Try.func39, Try.ntmps39
    repeat (first | fail | go_values | go_skip | go_guarded | go_step | go_upon)
    go_ret
    exact ⟨rfl, ((But.refl _ _ _).alloc _).alloc _⟩
  have d5 : decide (x' < x + a) = true := decide_eq_true h5
  rcases (Decidable.em (y < y' + b')).symm with h6 | h6
  · have d6 : decide (y < y' + b') = false := decide_eq_false h6
    have hF : R = false := by rw [← HR.out]; exact decide_eq_false (fun hh => h6 (by (try simp only [ItemP, HeadP, BoxP, MeetP] at hh); (try simp only [ItemP, HeadP, BoxP, MeetP]); omega))
    subst hF
    have HX : Hid _ := h6
    clear h6
    go_enter Try.func39, Try.ntmps39
    repeat (first | fail | go_values | go_skip | go_guarded | go_step | go_upon)
    go_ret
    exact ⟨rfl, ((But.refl _ _ _).alloc _).alloc _⟩
  have d6 : decide (y < y' + b') = true := decide_eq_true h6
  rcases (Decidable.em (y' < y + b)).symm with h7 | h7
  · have d7 : decide (y' < y + b) = false := decide_eq_false h7
    have hF : R = false := by rw [← HR.out]; exact decide_eq_false (fun hh => h7 (by (try simp only [ItemP, HeadP, BoxP, MeetP] at hh); (try simp only [ItemP, HeadP, BoxP, MeetP]); omega))
    subst hF
    have HX : Hid _ := h7
    clear h7
    go_enter Try.func39, Try.ntmps39
    repeat (first | fail | go_values | go_skip | go_guarded | go_step | go_upon)
    go_ret
    exact ⟨rfl, ((But.refl _ _ _).alloc _).alloc _⟩
  have d7 : decide (y' < y + b) = true := decide_eq_true h7
  have hT : R = true := by rw [← HR.out]; exact decide_eq_true (by simp only [ItemP, HeadP, BoxP, MeetP] at *; omega)
  subst hT
  go_enter Try.func39, Try.ntmps39
  repeat (first | fail | go_values | go_skip | go_guarded | go_step | go_upon)
  go_ret
  exact ⟨rfl, ((But.refl _ _ _).alloc _).alloc _⟩

theorem run_min4 {P : Program} (x y z u : Int) : ∃ m : Int, (∀ W ts t, (Builtin.min_ ts t #[.int .i64 x, .int .i64 y, .int .i64 z, .int .i64 u]).run P W = .ok (.int .i64 m) W) ∧ (0 < m ↔ (0 < x ∧ 0 < y ∧ 0 < z ∧ 0 < u)) := by
  refine ⟨_, fun W ts t => by simp [Builtin.min_, Builtin.min2]; rfl, ?_⟩
  (repeat' split) <;> omega

set_option maxHeartbeats 4000000 in
theorem imeet (x y a b x' y' a' b' : Int) (w : World) (hP : BoxP x y a b) (hQ : BoxP x' y' a' b') : Calls Try.prog 40 #[.agg #[.int .i64 x, .int .i64 y, .int .i64 a, .int .i64 b], .agg #[.int .i64 x', .int .i64 y', .int .i64 a', .int .i64 b']] w fun e w' => e = .returned (.bool (decide (MeetP x y a b x' y' a' b'))) ∧ Kept w w' := by
  obtain ⟨⟨q1, q2⟩, ⟨q3, q4⟩, ⟨q5, q6⟩, q7, q8⟩ := hP
  obtain ⟨⟨r1, r2⟩, ⟨r3, r4⟩, ⟨r5, r6⟩, r7, r8⟩ := hQ
  obtain ⟨m, hm, hmm⟩ := run_min4 (P := Try.prog) a b a' b'
  have HMM : Hid _ := hmm
  clear hmm
  obtain ⟨R, hR⟩ : ∃ R : Bool, decide (MeetP x y a b x' y' a' b') = R := ⟨_, rfl⟩
  rw [hR]
  have HR : Hid (decide (MeetP x y a b x' y' a' b') = R) := hR
  clear hR
  rcases (Decidable.em (0 < m)).symm with h0 | h0
  · have d0 : decide (0 < m) = false := decide_eq_false h0
    have hF : R = false := by rw [← HR.out]; exact decide_eq_false (fun hh => h0 (by (try simp only [ItemP, HeadP, BoxP, MeetP] at hh); (try simp only [ItemP, HeadP, BoxP, MeetP]); have hmm := HMM.out; omega))
    subst hF
    have HX : Hid _ := h0
    clear h0
    go_enter Try.func40, Try.ntmps40
    repeat (first | fail | go_values | go_skip | go_guarded | go_step | go_upon)
    go_ret
    exact ⟨rfl, ((But.refl _ _ _).alloc _).alloc _⟩
  have d0 : decide (0 < m) = true := decide_eq_true h0
  rcases (Decidable.em (x < x' + a')).symm with h1 | h1
  · have d1 : decide (x < x' + a') = false := decide_eq_false h1
    have hF : R = false := by rw [← HR.out]; exact decide_eq_false (fun hh => h1 (by (try simp only [ItemP, HeadP, BoxP, MeetP] at hh); (try simp only [ItemP, HeadP, BoxP, MeetP]); have hmm := HMM.out; omega))
    subst hF
    have HX : Hid _ := h1
    clear h1
    go_enter Try.func40, Try.ntmps40
    repeat (first | fail | go_values | go_skip | go_guarded | go_step | go_upon)
    go_ret
    exact ⟨rfl, ((But.refl _ _ _).alloc _).alloc _⟩
  have d1 : decide (x < x' + a') = true := decide_eq_true h1
  rcases (Decidable.em (x' < x + a)).symm with h2 | h2
  · have d2 : decide (x' < x + a) = false := decide_eq_false h2
    have hF : R = false := by rw [← HR.out]; exact decide_eq_false (fun hh => h2 (by (try simp only [ItemP, HeadP, BoxP, MeetP] at hh); (try simp only [ItemP, HeadP, BoxP, MeetP]); have hmm := HMM.out; omega))
    subst hF
    have HX : Hid _ := h2
    clear h2
    go_enter Try.func40, Try.ntmps40
    repeat (first | fail | go_values | go_skip | go_guarded | go_step | go_upon)
    go_ret
    exact ⟨rfl, ((But.refl _ _ _).alloc _).alloc _⟩
  have d2 : decide (x' < x + a) = true := decide_eq_true h2
  rcases (Decidable.em (y < y' + b')).symm with h3 | h3
  · have d3 : decide (y < y' + b') = false := decide_eq_false h3
    have hF : R = false := by rw [← HR.out]; exact decide_eq_false (fun hh => h3 (by (try simp only [ItemP, HeadP, BoxP, MeetP] at hh); (try simp only [ItemP, HeadP, BoxP, MeetP]); have hmm := HMM.out; omega))
    subst hF
    have HX : Hid _ := h3
    clear h3
    go_enter Try.func40, Try.ntmps40
    repeat (first | fail | go_values | go_skip | go_guarded | go_step | go_upon)
    go_ret
    exact ⟨rfl, ((But.refl _ _ _).alloc _).alloc _⟩
  have d3 : decide (y < y' + b') = true := decide_eq_true h3
  rcases (Decidable.em (y' < y + b)).symm with h4 | h4
  · have d4 : decide (y' < y + b) = false := decide_eq_false h4
    have hF : R = false := by rw [← HR.out]; exact decide_eq_false (fun hh => h4 (by (try simp only [ItemP, HeadP, BoxP, MeetP] at hh); (try simp only [ItemP, HeadP, BoxP, MeetP]); have hmm := HMM.out; omega))
    subst hF
    have HX : Hid _ := h4
    clear h4
    go_enter Try.func40, Try.ntmps40
    repeat (first | fail | go_values | go_skip | go_guarded | go_step | go_upon)
    go_ret
    exact ⟨rfl, ((But.refl _ _ _).alloc _).alloc _⟩
  have d4 : decide (y' < y + b) = true := decide_eq_true h4
  have hT : R = true := by rw [← HR.out]; exact decide_eq_true (by simp only [ItemP, HeadP, BoxP, MeetP] at *; have hmm := HMM.out; omega)
  subst hT
  go_enter Try.func40, Try.ntmps40
  repeat (first | fail | go_values | go_skip | go_guarded | go_step | go_upon)
  go_ret
  exact ⟨rfl, ((But.refl _ _ _).alloc _).alloc _⟩

end Go.Proofs.Ytoimpkhgdpkhkaa
