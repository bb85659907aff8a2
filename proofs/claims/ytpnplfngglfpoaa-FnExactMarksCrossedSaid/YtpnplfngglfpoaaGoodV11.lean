/-
  Whether values are good, in the program and in its specification.
-/
import Derived.Test.YtpnplfngglfpoaaLeaf11
namespace Go.Proofs.Ytpnplfngglfpoaa
open Go.ChangeShapes Go.WideShapes Go.ChangeAt Go.RowKit

set_option maxHeartbeats 2000000 in
theorem ivals (ps : List NumD) (v : Value) (w : World) (hv : NumAt w v ps) (hn : ps.length ≤ 9000000000000000000) :
    Calls Try.prog 75 #[v] w fun e w' => e = .returned (.bool (decide (∀ x ∈ ps, ValP x))) ∧ Kept w w' := by
  obtain ⟨ao, cap, hsl⟩ := row_nil hv
  subst hsl
  go_enter Try.func75, Try.ntmps75
  go_wp2
  go_loopw [7] (fun i wr => ∃ (k : Nat), k ≤ ps.length ∧ i = .int .i64 k ∧ Hid (∀ j x, j < k → ps[j]? = some x → ValP x) ∧ Kept w wr) (fun i _ => ps.length - (intOf i).toNat)
  case atStart => exact ⟨0, by omega, rfl, (fun j x hj => by omega : ∀ j x, j < 0 → ps[j]? = some x → ValP x), But.refl _ _ _⟩
  case round =>
    obtain ⟨j, hk, rfl, HB, hkp⟩ := hrel
    by_cases hlt : j < ps.length
    · obtain ⟨p, hp⟩ : ∃ p, ps[j]? = some p := ⟨_, List.getElem?_eq_getElem hlt⟩
      obtain ⟨bb, o, cap', e, q0⟩ := num_get (hv.kept hkp) hp
      cases e
      have HK : Hid (Kept w wr) := hkp
      have HP : Hid (ps[j]? = some p) := hp
      clear hp hkp
      rcases (Decidable.em (ValP p)).symm with h3 | h3
      · have d3 : decide (ValP p) = false := decide_eq_false h3
        go_wp2_with (go_at_call 82; refine (ival _ _).mono ?_; rw [d3]; rintro e w' ⟨rfl, rfl⟩)
        go_ret
        exact ⟨ret_boolG (decide_eq_false (fun h => h3 (h p (List.mem_of_getElem? HP.out)))).symm, HK.out.trans (by (repeat (first | with_reducible exact But.refl _ _ _ | with_reducible apply But.drewN | with_reducible apply But.drew | with_reducible apply But.alloc | (with_reducible refine But.setNew ?_ (by simp +arith) _))))⟩
      · have d3 : decide (ValP p) = true := decide_eq_true h3
        go_wp2_with (go_at_call 82; refine (ival _ _).mono ?_; rw [d3]; rintro e w' ⟨rfl, rfl⟩)
        have I : ∀ i x, i < j + 1 → ps[i]? = some x → ValP x := fun i x hi hx => by
          by_cases e : i = j
          · subst e
            rw [HP.out] at hx
            cases hx
            exact h3
          · exact HB.out i x (by omega) hx
        exact ⟨⟨j + 1, hlt, by go_num, I, HK.out.trans (by (repeat (first | with_reducible exact But.refl _ _ _ | with_reducible apply But.drewN | with_reducible apply But.drew | with_reducible apply But.alloc | (with_reducible refine But.setNew ?_ (by simp +arith) _))))⟩, by simp [intOf]; omega⟩
    · have hke : j = ps.length := by omega
      subst hke
      have all : ∀ x ∈ ps, ValP x := fun x hx => by
        obtain ⟨i, hi, rfl⟩ := List.getElem_of_mem hx
        exact HB.out i _ hi (List.getElem?_eq_getElem hi)
      go_wp2
      go_ret
      exact ⟨ret_boolG (decide_eq_true all).symm, hkp⟩

set_option maxHeartbeats 2000000 in
theorem svals0 (ps : List NumD) (v : Value) (w : World) (hv : NumAt w v ps) (hn : ps.length ≤ 9000000000000000000) (h1 : 1 ≤ ps.length) (h2 : ps.length ≤ 60) :
    Calls Try.prog 51 #[v] w fun e w' => e = .returned (.bool (decide (ValsP ps))) ∧ Kept w w' := by
  obtain ⟨ao, cap, hsl⟩ := row_nil hv
  subst hsl
  have c1 : decide ((ps.length : Int) < 1) = false := by simp; omega
  have c2 : decide (60 < (ps.length : Int)) = false := by simp; omega
  go_enter Try.func51, Try.ntmps51
  go_wp2
  go_loopw [15] (fun i wr => ∃ (k : Nat), k ≤ ps.length ∧ i = .int .i64 k ∧ Hid (∀ j x, j < k → ps[j]? = some x → ValP x) ∧ Kept w wr) (fun i _ => ps.length - (intOf i).toNat)
  case atStart => exact ⟨0, by omega, rfl, (fun j x hj => by omega : ∀ j x, j < 0 → ps[j]? = some x → ValP x), But.refl _ _ _⟩
  case round =>
    obtain ⟨j, hk, rfl, HB, hkp⟩ := hrel
    by_cases hlt : j < ps.length
    · obtain ⟨p, hp⟩ : ∃ p, ps[j]? = some p := ⟨_, List.getElem?_eq_getElem hlt⟩
      obtain ⟨bb, o, cap', e, q0⟩ := num_get (hv.kept hkp) hp
      cases e
      have HK : Hid (Kept w wr) := hkp
      have HP : Hid (ps[j]? = some p) := hp
      clear hp hkp
      rcases (Decidable.em (ValP p)).symm with h3 | h3
      · have d3 : decide (ValP p) = false := decide_eq_false h3
        go_wp2_with (go_at_call 73; refine (sval _ _).mono ?_; rw [d3]; rintro e w' ⟨rfl, rfl⟩)
        go_ret
        exact ⟨ret_boolG (decide_eq_false (fun h => h3 (h.2 p (List.mem_of_getElem? HP.out)))).symm, HK.out.trans (by (repeat (first | with_reducible exact But.refl _ _ _ | with_reducible apply But.drewN | with_reducible apply But.drew | with_reducible apply But.alloc | (with_reducible refine But.setNew ?_ (by simp +arith) _))))⟩
      · have d3 : decide (ValP p) = true := decide_eq_true h3
        go_wp2_with (go_at_call 73; refine (sval _ _).mono ?_; rw [d3]; rintro e w' ⟨rfl, rfl⟩)
        have I : ∀ i x, i < j + 1 → ps[i]? = some x → ValP x := fun i x hi hx => by
          by_cases e : i = j
          · subst e
            rw [HP.out] at hx
            cases hx
            exact h3
          · exact HB.out i x (by omega) hx
        exact ⟨⟨j + 1, hlt, by go_num, I, HK.out.trans (by (repeat (first | with_reducible exact But.refl _ _ _ | with_reducible apply But.drewN | with_reducible apply But.drew | with_reducible apply But.alloc | (with_reducible refine But.setNew ?_ (by simp +arith) _))))⟩, by simp [intOf]; omega⟩
    · have hke : j = ps.length := by omega
      subst hke
      have all : ∀ x ∈ ps, ValP x := fun x hx => by
        obtain ⟨i, hi, rfl⟩ := List.getElem_of_mem hx
        exact HB.out i _ hi (List.getElem?_eq_getElem hi)
      go_wp2
      go_ret
      exact ⟨ret_boolG (decide_eq_true ⟨⟨h1, h2⟩, all⟩).symm, hkp⟩

theorem svals (ps : List NumD) (v : Value) (w : World) (hv : NumAt w v ps) (hn : ps.length ≤ 9000000000000000000) :
    Calls Try.prog 51 #[v] w fun e w' => e = .returned (.bool (decide (ValsP ps))) ∧ Kept w w' := by
  by_cases hc : ps.length < 1 ∨ 60 < ps.length
  · have key : decide (ValsP ps) = false := decide_eq_false (fun h => by have := h.1; omega)
    rw [key]
    obtain ⟨ao, cap, hsl⟩ := row_nil hv
    subst hsl
    go_enter Try.func51, Try.ntmps51
    go_wp2
    all_goals
      first | (exfalso; omega) | skip
    all_goals
      go_ret
      exact ⟨rfl, But.refl _ _ _⟩
  · exact svals0 ps v w hv hn (by omega) (by omega)
theorem irow (ps : List NumD) (v : Value) (w : World) (hv : NumAt w v ps) (hn : ps.length ≤ 9000000000000000000) :
    Calls Try.prog 49 #[v] w fun e w' => e = .returned (.bool (decide (ValsP ps))) ∧ Kept w w' := by
  obtain ⟨ao, cap, hsl⟩ := row_nil hv
  subst hsl
  by_cases hc : ps.length < 1 ∨ 60 < ps.length
  · have key : decide (ValsP ps) = false := decide_eq_false (fun h => by have := h.1; omega)
    rw [key]
    go_enter Try.func49, Try.ntmps49
    go_wp2_with fail
    all_goals
      first | (exfalso; omega) | skip
    all_goals
      go_ret
      exact ⟨rfl, But.refl _ _ _⟩
  · have c1 : decide (1 ≤ (ps.length : Int)) = true := by simp; omega
    have c2 : decide ((ps.length : Int) ≤ 60) = true := by simp; omega
    have key : decide (ValsP ps) = decide (∀ x ∈ ps, ValP x) := by
      rw [Bool.eq_iff_iff, decide_eq_true_iff, decide_eq_true_iff]
      exact ⟨fun h => h.2, fun h => ⟨by omega, h⟩⟩
    rw [key]
    have HI := ivals ps _ w hv hn
    cases hd : decide (∀ x ∈ ps, ValP x)
    all_goals
      rw [hd] at HI
      go_enter Try.func49, Try.ntmps49
      go_wp2_with (go_at_call 75; refine HI.mono ?_; rintro e w' ⟨rfl, k1⟩)
      go_ret
      exact ⟨rfl, k1⟩

end Go.Proofs.Ytpnplfngglfpoaa
