/-
  Good fields: the specification and the program.
-/
import Derived.Test.YtopakblckajdmaaGood14
namespace Go.Proofs.Ytopakblckajdmaa
open Go.ChangeShapes Go.WideShapes Go.ChangeAt Go.RowKit

set_option maxRecDepth 100000
set_option linter.unusedVariables false
set_option maxHeartbeats 4000000 in
theorem itiles (v : Value) (c : FieldD) (s : Int) (w : World) (hv : FieldAt w v c) (hs : 0 ≤ s ∧ s ≤ 6) (hn : c.2.2.length ≤ 1048576) :
    Calls Try.prog 58 #[v, .int .i64 s] w fun e w' => e = .returned (.bool (dec (FieldP s c))) ∧ Kept w w' := by
  obtain ⟨ao, cap, hfm⟩ := hv.form
  subst hfm
  have hr := hv.row
  by_cases h1 : 1 ≤ c.1 ∧ c.1 ≤ 6
  · have d1 : decide (1 ≤ c.1 ∧ c.1 ≤ 6) = true := decide_eq_true h1
    by_cases h2 : 1 ≤ c.2.1 ∧ c.2.1 ≤ 6
    · have d2 : decide (1 ≤ c.2.1 ∧ c.2.1 ≤ 6) = true := decide_eq_true h2
      obtain ⟨m1, m2⟩ := mul_in h1.1 h1.2 h2.1 h2.2
      by_cases h4 : (c.2.2.length : Int) = c.1 * c.2.1
      · have d4 : c.1 * c.2.1 = (c.2.2.length : Int) := h4.symm
        have H4 : Hid _ := And.intro h1 (And.intro h2 h4)
        clear h4
        have d4' : ((c.2.2.length : Int) == c.1 * c.2.1) = true := by rw [d4]; simp
        go_enter Try.func58, Try.ntmps58
        go_wp2_with (first | (go_at_call 76; refine (iedge _ _).mono ?_; rintro e u1 ⟨rfl, rfl⟩; rw [d1]; dsimp only) | (go_at_call 76; refine (iedge _ _).mono ?_; rintro e u1 ⟨rfl, rfl⟩; rw [d2]; dsimp only) | (go_at_call 67; refine (iare s c.2.2 _ _ _ (hr.kept ((But.refl _ _ _).alloc _)) hs.1 (by omega)).mono ?_; rintro e u2 ⟨rfl, k2⟩; dsimp only))
        all_goals
          go_ret
          refine ⟨ret_bool ?_, ((But.refl _ _ _).alloc _).trans k2⟩
          obtain ⟨h1, h2, h4⟩ := H4.out
          show dec (TilesP s c.2.2) = dec (FieldP s c)
          by_cases h : TilesP s c.2.2
          · rw [dec_yes h, dec_yes ⟨h1, h2, h4, h⟩]
          · rw [dec_no h, dec_no (fun x => h x.2.2.2)]
      · have hx : dec (FieldP s c) = false := dec_no fun h => h4 h.2.2.1
        rw [hx]
        have d4 : ((c.2.2.length : Int) == c.1 * c.2.1) = false := by simpa using h4
        go_enter Try.func58, Try.ntmps58
        go_wp2_with (first | (go_at_call 76; refine (iedge _ _).mono ?_; rintro e u1 ⟨rfl, rfl⟩; rw [d1]; dsimp only) | (go_at_call 76; refine (iedge _ _).mono ?_; rintro e u1 ⟨rfl, rfl⟩; rw [d2]; dsimp only))
        go_ret
        exact ⟨rfl, (But.refl _ _ _).alloc _⟩
    · have hx : dec (FieldP s c) = false := dec_no fun h => h2 h.2.1
      rw [hx]
      have d2 : decide (1 ≤ c.2.1 ∧ c.2.1 ≤ 6) = false := decide_eq_false h2
      go_enter Try.func58, Try.ntmps58
      go_wp2_with (first | (go_at_call 76; refine (iedge _ _).mono ?_; rintro e u1 ⟨rfl, rfl⟩; rw [d1]; dsimp only) | (go_at_call 76; refine (iedge _ _).mono ?_; rintro e u1 ⟨rfl, rfl⟩; rw [d2]; dsimp only))
      go_ret
      exact ⟨rfl, (But.refl _ _ _).alloc _⟩
  · have hx : dec (FieldP s c) = false := dec_no fun h => h1 h.1
    rw [hx]
    have d1 : decide (1 ≤ c.1 ∧ c.1 ≤ 6) = false := decide_eq_false h1
    go_enter Try.func58, Try.ntmps58
    go_wp2_with (first | (go_at_call 76; refine (iedge _ _).mono ?_; rintro e u1 ⟨rfl, rfl⟩; rw [d1]; dsimp only))
    go_ret
    exact ⟨rfl, (But.refl _ _ _).alloc _⟩

set_option maxHeartbeats 4000000 in
theorem sfield (v : Value) (c : FieldD) (s : Int) (w : World) (hv : FieldAt w v c) (hs : 0 ≤ s ∧ s ≤ 6) (hn : c.2.2.length ≤ 1048576) :
    Calls Try.prog 57 #[v, .int .i64 s] w fun e w' => e = .returned (.bool (dec (FieldP s c))) ∧ Kept w w' := by
  obtain ⟨ao, cap, hfm⟩ := hv.form
  subst hfm
  have hr := hv.row
  by_cases h1 : 1 ≤ c.1 ∧ c.1 ≤ 6
  · have d1 : decide (1 ≤ c.1 ∧ c.1 ≤ 6) = true := decide_eq_true h1
    by_cases h2 : 1 ≤ c.2.1 ∧ c.2.1 ≤ 6
    · have d2 : decide (1 ≤ c.2.1 ∧ c.2.1 ≤ 6) = true := decide_eq_true h2
      obtain ⟨m1, m2⟩ := mul_in h1.1 h1.2 h2.1 h2.2
      by_cases h4 : (c.2.2.length : Int) = c.1 * c.2.1
      · have d4 : c.1 * c.2.1 = (c.2.2.length : Int) := h4.symm
        have H4 : Hid _ := And.intro h1 (And.intro h2 h4)
        clear h4
        have d4' : ((c.2.2.length : Int) == c.1 * c.2.1) = true := by rw [d4]; simp
        go_enter Try.func57, Try.ntmps57
        go_wp2_with (first | (go_at_call 52; refine (sIn _ _ _ _).mono ?_; rintro e u1 ⟨rfl, rfl⟩; rw [d1]; dsimp only) | (go_at_call 52; refine (sIn _ _ _ _).mono ?_; rintro e u1 ⟨rfl, rfl⟩; rw [d2]; dsimp only))
        clear d1 d2 d4 d4' m1 m2 h1 h2
        go_loopw [31] (fun i wr => ∃ k : Nat, k ≤ c.2.2.length ∧ i = .int .i64 k ∧ Hid (∀ j, j < k → ∀ p, c.2.2[j]? = some p → -1 ≤ p ∧ p < s) ∧ Kept w wr) (fun i _ => c.2.2.length - (intOf i).toNat)
        case atStart => exact ⟨0, by omega, rfl, fun j hj => by omega, (But.refl _ _ _).alloc _⟩
        case round =>
          obtain ⟨k, hk, rfl, HB, hkp⟩ := hrel
          by_cases hlt : k < c.2.2.length
          · obtain ⟨p, hp⟩ : ∃ p, c.2.2[k]? = some p := ⟨_, List.getElem?_eq_getElem hlt⟩
            obtain ⟨g, o, cap1, ee, c0⟩ := num_get (hr.kept hkp) hp
            cases ee
            have HK : Hid _ := hkp
            have HP : Hid (c.2.2[k]? = some p) := hp
            clear hkp hp hr hv
            cases q : decide (-1 ≤ p ∧ p ≤ s - 1) with
            | false =>
              repeat (first | (go_at_call 52; refine (sIn _ _ _ _).mono ?_; rintro e u1 ⟨rfl, rfl⟩; rw [q]; dsimp only) | go_values | go_skip | go_guarded | go_step | go_upon)
              go_ret
              refine ⟨ret_bool (dec_no fun h => ?_).symm, HK.out⟩
              have := h.2.2.2 k hlt p HP.out
              have := of_decide_eq_false q
              omega
            | true =>
              repeat (first | (go_at_call 52; refine (sIn _ _ _ _).mono ?_; rintro e u1 ⟨rfl, rfl⟩; rw [q]; dsimp only) | go_values | go_skip | go_guarded | go_step | go_upon)
              refine ⟨⟨k + 1, hlt, by go_num, ?_, HK.out⟩, by simp [intOf]; omega⟩
              intro j hj l2 hl
              by_cases hjk : j = k
              · subst hjk
                rw [HP.out] at hl
                cases hl
                have := of_decide_eq_true q
                omega
              · exact HB.out j (by omega) l2 hl
          · have hke : k = c.2.2.length := by omega
            subst hke
            have HKP : Hid _ := hkp
            clear hkp
            go_wp2
            go_ret
            obtain ⟨h1, h2, h4⟩ := H4.out
            exact ⟨ret_bool (dec_yes ⟨h1, h2, h4, HB.out⟩).symm, HKP.out⟩
      · have hx : dec (FieldP s c) = false := dec_no fun h => h4 h.2.2.1
        rw [hx]
        have d4 : ((c.2.2.length : Int) == c.1 * c.2.1) = false := by simpa using h4
        go_enter Try.func57, Try.ntmps57
        go_wp2_with (first | (go_at_call 52; refine (sIn _ _ _ _).mono ?_; rintro e u1 ⟨rfl, rfl⟩; rw [d1]; dsimp only) | (go_at_call 52; refine (sIn _ _ _ _).mono ?_; rintro e u1 ⟨rfl, rfl⟩; rw [d2]; dsimp only))
        go_ret
        exact ⟨rfl, (But.refl _ _ _).alloc _⟩
    · have hx : dec (FieldP s c) = false := dec_no fun h => h2 h.2.1
      rw [hx]
      have d2 : decide (1 ≤ c.2.1 ∧ c.2.1 ≤ 6) = false := decide_eq_false h2
      go_enter Try.func57, Try.ntmps57
      go_wp2_with (first | (go_at_call 52; refine (sIn _ _ _ _).mono ?_; rintro e u1 ⟨rfl, rfl⟩; rw [d1]; dsimp only) | (go_at_call 52; refine (sIn _ _ _ _).mono ?_; rintro e u1 ⟨rfl, rfl⟩; rw [d2]; dsimp only))
      go_ret
      exact ⟨rfl, (But.refl _ _ _).alloc _⟩
  · have hx : dec (FieldP s c) = false := dec_no fun h => h1 h.1
    rw [hx]
    have d1 : decide (1 ≤ c.1 ∧ c.1 ≤ 6) = false := decide_eq_false h1
    go_enter Try.func57, Try.ntmps57
    go_wp2_with (first | (go_at_call 52; refine (sIn _ _ _ _).mono ?_; rintro e u1 ⟨rfl, rfl⟩; rw [d1]; dsimp only))
    go_ret
    exact ⟨rfl, (But.refl _ _ _).alloc _⟩

end Go.Proofs.Ytopakblckajdmaa
