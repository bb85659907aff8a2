/-
  Placed ones as they must be, in the program.
-/
import Derived.Test.YtaofilinejanjaaFocP18
import Derived.Test.YtaofilinejanjaaQuiet
namespace Go.Proofs.Ytaofilinejanjaa
open Go.ChangeShapes Go.WideShapes Go.ChangeAt Go.RowKit

set_option maxRecDepth 100000
set_option linter.unusedVariables false

theorem isize (x : Int) (w : World) (h : -1000000000 ≤ x ∧ x ≤ 1000000000) : Calls Try.prog 47 #[.int .i64 x] w fun e w' => e = .returned (.int .i64 (absM x)) ∧ w' = w := by
  obtain ⟨h1, h2⟩ := h
  go_enter Try.func47, Try.ntmps47
  go_wp2
  all_goals
    go_ret
    exact ⟨ret_intG (by unfold absM; split <;> (first | omega | (split <;> omega))), rfl⟩
theorem run_min4 {P : Program} (W : World) (ts : Array TypeId) (t : TypeId) (x y z u : Int) : ∃ m : Int, (Builtin.min_ ts t #[.int .i64 x, .int .i64 y, .int .i64 z, .int .i64 u]).run P W = .ok (.int .i64 m) W ∧ (m < 0 ↔ (x < 0 ∨ y < 0 ∨ z < 0 ∨ u < 0)) := by
  refine ⟨_, by simp [Builtin.min_, Builtin.min2]; rfl, ?_⟩
  repeat' split
  all_goals omega
theorem run_max4 {P : Program} (W : World) (ts : Array TypeId) (t : TypeId) (x y z u : Int) : ∃ m : Int, (Builtin.max_ ts t #[.int .i64 x, .int .i64 y, .int .i64 z, .int .i64 u]).run P W = .ok (.int .i64 m) W ∧ (40000 < m ↔ (40000 < x ∨ 40000 < y ∨ 40000 < z ∨ 40000 < u)) := by
  refine ⟨_, by simp [Builtin.max_, Builtin.max2]; rfl, ?_⟩
  repeat' split
  all_goals omega

set_option maxHeartbeats 8000000 in
theorem igplaced (l : List PlacedD) (v : Value) (w : World) (hv : PlacedAt w v l) (hn : l.length ≤ 1048576) :
    Calls Try.prog 45 #[v] w fun e w' => e = .returned (.bool (dec (PlsP l))) ∧ Kept w w' := by
  obtain ⟨ao, cap, hsl⟩ := row_nil hv
  subst hsl
  have NO : Hid (¬ PlsP l → dec (PlsP l) = false) := fun h => dec_no h
  have YES : Hid (PlsP l → dec (PlsP l) = true) := fun h => dec_yes h
  generalize dec (PlsP l) = R at *
  by_cases h1 : 40 < l.length
  · rw [NO.out (fun h => by have := h.1; omega)]
    have d1 : decide ((40 : Int) < (l.length : Int)) = true := decide_eq_true (by omega)
    go_enter Try.func45, Try.ntmps45
    go_wp2
    go_ret
    exact ⟨rfl, But.refl _ _ _⟩
  have d1 : decide ((40 : Int) < (l.length : Int)) = false := decide_eq_false (by omega)
  go_enter Try.func45, Try.ntmps45
  go_wp2
  clear d1
  go_loopw [10] (fun i wr => ∃ (k : Nat), k ≤ l.length ∧ i = .int .i64 k ∧ Hid (∀ j, j < k → ∀ d, l[j]? = some d → PlOk d) ∧ Kept w wr) (fun i _ => l.length - (intOf i).toNat)
  case atStart => exact ⟨0, by omega, rfl, (fun j hj => by omega : ∀ j, j < 0 → ∀ d, l[j]? = some d → PlOk d), But.refl _ _ _⟩
  case round =>
    obtain ⟨j, hk, rfl, HB, hkp⟩ := hrel
    by_cases hlt : j < l.length
    · obtain ⟨d, hd⟩ : ∃ p, l[j]? = some p := ⟨_, List.getElem?_eq_getElem hlt⟩
      obtain ⟨b, o, cap', ee, c0, c1, c2, c3⟩ := placed_get (hv.kept hkp) hd
      cases ee
      have NJ : Hid (¬ PlOk d → R = false) := fun h => NO.out (fun h' => h (h'.2 j hlt d hd))
      have HP : Hid (l[j]? = some d) := hd
      have HK : Hid (Kept w wr) := hkp
      obtain ⟨x, y, z, u⟩ := d
      dsimp only at c0 c1 c2 c3
      clear hkp hv hd
      have hmn : ∀ W ts t, ∃ m : Int, (Builtin.min_ ts t #[.int .i64 x, .int .i64 y, .int .i64 z, .int .i64 u]).run Try.prog W = .ok (.int .i64 m) W ∧ (m < 0 ↔ (x < 0 ∨ y < 0 ∨ z < 0 ∨ u < 0)) := fun W ts t => run_min4 W ts t x y z u
      have hmx : ∀ W ts t, ∃ m : Int, (Builtin.max_ ts t #[.int .i64 x, .int .i64 y, .int .i64 z, .int .i64 u]).run Try.prog W = .ok (.int .i64 m) W ∧ (40000 < m ↔ (40000 < x ∨ 40000 < y ∨ 40000 < z ∨ 40000 < u)) := fun W ts t => run_max4 W ts t x y z u
      obtain ⟨m1, e1, q1⟩ := hmn (wr.alloc (.cells #[.int .i64 x, .int .i64 y, .int .i64 z, .int .i64 u] 61)) #[3, 3, 3, 3] 3
      obtain ⟨m2, e2, q2⟩ := hmx (wr.alloc (.cells #[.int .i64 x, .int .i64 y, .int .i64 z, .int .i64 u] 61)) #[3, 3, 3, 3] 3
      have Q1 : Hid (m1 < 0 ↔ (x < 0 ∨ y < 0 ∨ z < 0 ∨ u < 0)) := q1
      have Q2 : Hid (40000 < m2 ↔ (40000 < x ∨ 40000 < y ∨ 40000 < z ∨ 40000 < u)) := q2
      clear hmn hmx q1 q2
      by_cases h1 : m1 < 0
      · have d1 : decide (m1 < 0) = true := decide_eq_true h1
        have hR := NJ.out (fun h => by have := Q1.out.1 h1; unfold PlOk at h; dsimp only at h; omega)
        subst hR
        clear h1
        repeat (first | go_values | go_skip | go_guarded | go_step | go_upon)
        go_ret
        exact ⟨rfl, HK.out.alloc _⟩
      have d1 : decide (m1 < 0) = false := decide_eq_false h1
      by_cases h2 : 40000 < m2
      · have d2 : decide (40000 < m2) = true := decide_eq_true h2
        have hR := NJ.out (fun h => by have := Q2.out.1 h2; unfold PlOk at h; dsimp only at h; omega)
        subst hR
        clear h1 h2
        repeat (first | go_values | go_skip | go_guarded | go_step | go_upon)
        go_ret
        exact ⟨rfl, HK.out.alloc _⟩
      have d2 : decide (40000 < m2) = false := decide_eq_false h2
      have I : Hid (∀ i, i < j + 1 → ∀ d, l[i]? = some d → PlOk d) := all_more HB.out (fun d hd => by
        rw [HP.out] at hd
        cases hd
        have := Q1.out
        have := Q2.out
        unfold PlOk
        dsimp only
        omega)
      clear h1 h2
      repeat (first | go_values | go_skip | go_guarded | go_step | go_upon)
      exact ⟨⟨j + 1, hlt, by go_num, I, HK.out.alloc _⟩, by simp [intOf]; omega⟩
    · have hke : j = l.length := by omega
      subst hke
      have hR := YES.out ⟨by omega, HB.out⟩
      subst hR
      go_wp2
      go_ret
      exact ⟨rfl, hkp⟩

end Go.Proofs.Ytaofilinejanjaa
