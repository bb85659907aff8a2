/-
  WorstOf, in the program and in its specification.
-/
import Derived.Test.YtpnplfngglfpoaaValA11
import Derived.Test.YtpnplfngglfpoaaGoodV11
namespace Go.Proofs.Ytpnplfngglfpoaa
open Go.ChangeShapes Go.WideShapes Go.ChangeAt Go.RowKit

set_option maxRecDepth 100000
set_option linter.unusedVariables false
theorem isize (a b : Int) (w : World) (h : -1000000000 ≤ a - b ∧ a - b ≤ 1000000000) : Calls Try.prog 55 #[.int .i64 (a - b)] w fun e w' => e = .returned (.int .i64 (dist a b)) ∧ w' = w := by
  unfold dist
  generalize a - b = x at *
  by_cases hx : x < 0
  · rw [if_pos hx]
    go_enter Try.func55, Try.ntmps55
    go_wp2
    all_goals
      go_ret
      exact ⟨ret_intG (by first | omega | (split <;> omega)), rfl⟩
  · rw [if_neg hx]
    go_enter Try.func55, Try.ntmps55
    go_wp2
    all_goals
      go_ret
      exact ⟨ret_intG (by first | omega | (split <;> omega)), rfl⟩
theorem sabs (a b : Int) (w : World) (h : -1000000000 ≤ a - b ∧ a - b ≤ 1000000000) : Calls Try.prog 58 #[.int .i64 (a - b)] w fun e w' => e = .returned (.int .i64 (dist a b)) ∧ w' = w := by
  unfold dist
  generalize a - b = x at *
  by_cases hx : x < 0
  · rw [if_pos hx]
    have d : decide (x < 0) = true := decide_eq_true hx
    go_enter Try.func58, Try.ntmps58
    go_wp2
    go_ret
    exact ⟨rfl, rfl⟩
  · rw [if_neg hx]
    have d : decide (x < 0) = false := decide_eq_false hx
    go_enter Try.func58, Try.ntmps58
    go_wp2
    go_ret
    exact ⟨rfl, rfl⟩
/-- What WorstOf answers. -/
noncomputable def worstA (vs : List NumD) (ps : List KeyD) : Int × Bool := if ValsP vs ∧ KeysP 60 ps then (worst vs ps vs.length, true) else (0, false)
theorem worst_next (vs : List NumD) (ps : List KeyD) {n : Nat} {x : Int} (h : vs[n]? = some x) : worst vs ps (n + 1) = max (worst vs ps n) (dist (atK ps n) x) := by simp [worst, h]

theorem ret_twoB {a b : Int} {x y : Bool} (h : a = b) (h' : x = y) : Ending.returned (.tuple #[.int .i64 a, .bool x]) = .returned (.tuple #[.int .i64 b, .bool y]) := by rw [h, h']

set_option maxHeartbeats 2000000 in
theorem iworst (vs : List NumD) (ps : List KeyD) (v v2 : Value) (w : World) (hv : NumAt w v vs) (hv2 : KeyAt w v2 ps) (hn : vs.length ≤ 9000000000000000000) (hn2 : ps.length ≤ 9000000000000000000) :
    Calls Try.prog 14 #[v, v2] w fun e w' => e = .returned (.tuple #[.int .i64 (worstA vs ps).1, .bool (worstA vs ps).2]) ∧ Kept w w' := by
  obtain ⟨ao, cap, hsl⟩ := row_nil hv
  subst hsl
  obtain ⟨ao2, cap2, hsl⟩ := row_nil hv2
  subst hsl
  have HR : Hid (Calls Try.prog 49 #[.slice ao vs.length cap] w fun e w' => e = .returned (.bool (decide (ValsP vs))) ∧ Kept w w') := irow vs _ w hv hn
  have HI : Hid (∀ W, Kept w W → Calls Try.prog 54 #[.slice ao2 ps.length cap2, .int .i64 60] W fun e w' => e = .returned (.bool (decide (KeysP 60 ps))) ∧ Kept W w') := fun W k => ikeys 60 ps _ W (hv2.kept k) (by omega) hn2
  by_cases h1 : ValsP vs
  · have d1 : decide (ValsP vs) = true := decide_eq_true h1
    by_cases h2 : KeysP 60 ps
    · have d2 : decide (KeysP 60 ps) = true := decide_eq_true h2
      have ea : worstA vs ps = (worst vs ps vs.length, true) := if_pos ⟨h1, h2⟩
      rw [ea]
      dsimp only
      have AT : Hid (∀ (W : World) (f : Int), Kept w W → (0 ≤ f ∧ f < 60) → Calls Try.prog 56 #[.slice ao2 ps.length cap2, .int .i64 f] W fun e w' => e = .returned (.int .i64 (atK ps f)) ∧ Kept W w') := fun W f k hf => ivalof 60 ps f _ W (hv2.kept k) h2 (by omega)
      have hl := h1.1.2
      have HV : Hid (NumAt w (.slice ao vs.length cap) vs) := hv
      have H12 : Hid (ValsP vs ∧ KeysP 60 ps) := ⟨h1, h2⟩
      clear hv hv2 h1 h2
      go_enter Try.func14, Try.ntmps14
      go_wp2_with (first | (go_at_call 49; refine HR.out.mono ?_; rw [d1]; rintro e w1 ⟨rfl, k1⟩; dsimp only) | (go_at_call 54; refine (HI.out _ k1).mono ?_; rw [d2]; rintro e w2 ⟨rfl, k2⟩; dsimp only))
      have K2 : Hid (Kept w w2) := k1.trans k2
      clear k1 k2
      go_loopw [6, 19] (fun s i wr => ∃ (k : Nat) (x : Int), k ≤ vs.length ∧ s = .int .i64 x ∧ i = .int .i64 k ∧ Hid (x = worst vs ps k) ∧ Kept w wr) (fun _ i _ => vs.length - (intOf i).toNat)
      case atStart => exact ⟨0, 0, by omega, rfl, rfl, (rfl : (0 : Int) = worst vs ps 0), K2.out⟩
      case round =>
        obtain ⟨j, x, hk, rfl, rfl, HX, hkp⟩ := hrel
        by_cases hlt : j < vs.length
        · obtain ⟨p, hp⟩ : ∃ p, vs[j]? = some p := ⟨_, List.getElem?_eq_getElem hlt⟩
          obtain ⟨bb, o, cap', e, q0⟩ := num_get (HV.out.kept hkp) hp
          cases e
          have hw := worst_bd H12.out.2 H12.out.1.2 j hk
          rw [← HX.out] at hw
          have hpv := H12.out.1.2 p (List.mem_of_getElem? hp)
          have hav := atK_bd H12.out.2 (j : Int)
          have hx := worst_next vs ps hp
          rw [← HX.out] at hx
          have HN : Hid (worst vs ps (j + 1) = max x (dist (atK ps j) p)) := hx
          have AJ := fun W k => AT.out W (j : Int) k (by omega)
          have AJ : Hid (∀ (W : World), Kept w W → Calls Try.prog 56 #[.slice ao2 ps.length cap2, .int .i64 j] W fun e w' => e = .returned (.int .i64 (atK ps j)) ∧ Kept W w') := AJ
          have DS : Hid (∀ W, Calls Try.prog 55 #[.int .i64 (atK ps j - p)] W fun e w' => e = .returned (.int .i64 (dist (atK ps j) p)) ∧ w' = W) := fun W => isize _ _ W (by omega)
          generalize atK ps j = Z at *
          have ez : IntKind.i64.wrap (Z - p) = Z - p := IntWalk.i64_in _ (by omega)
          generalize dist Z p = Y at *
          have HK : Hid (Kept w wr) := hkp
          clear hp hx hkp
          go_wp2_with (first | (go_at_call 56; refine (AJ.out _ HK.out).mono ?_; rintro e w3 ⟨rfl, k3⟩; dsimp only) | (go_at_call 55; refine (DS.out _).mono ?_; rintro e _ ⟨rfl, rfl⟩; dsimp only))
          exact ⟨⟨j + 1, (if x < Y then Y else x), hlt, rfl, by go_num, (by rw [HN.out]; split <;> omega : (if x < Y then Y else x) = worst vs ps (j + 1)), HK.out.trans k3⟩, by simp [intOf]; omega⟩
        · have hke : j = vs.length := by omega
          subst hke
          go_wp2
          go_ret2
          exact ⟨ret_twoB HX.out rfl, hkp⟩
    · have d2 : decide (KeysP 60 ps) = false := decide_eq_false h2
      have ea : worstA vs ps = (0, false) := if_neg (fun h => h2 h.2)
      rw [ea]
      go_enter Try.func14, Try.ntmps14
      go_wp2_with (first | (go_at_call 49; refine HR.out.mono ?_; rw [d1]; rintro e w1 ⟨rfl, k1⟩; dsimp only) | (go_at_call 54; refine (HI.out _ k1).mono ?_; rw [d2]; rintro e w2 ⟨rfl, k2⟩; dsimp only))
      go_ret2
      exact ⟨rfl, k1.trans k2⟩
  · have d1 : decide (ValsP vs) = false := decide_eq_false h1
    have ea : worstA vs ps = (0, false) := if_neg (fun h => h1 h.1)
    rw [ea]
    go_enter Try.func14, Try.ntmps14
    go_wp2_with (first | (go_at_call 49; refine HR.out.mono ?_; rw [d1]; rintro e w1 ⟨rfl, k1⟩; dsimp only))
    go_ret2
    exact ⟨rfl, k1⟩

set_option maxHeartbeats 2000000 in
theorem sworst (vs : List NumD) (ps : List KeyD) (v v2 : Value) (w : World) (hv : NumAt w v vs) (hv2 : KeyAt w v2 ps) (hn : vs.length ≤ 9000000000000000000) (hn2 : ps.length ≤ 9000000000000000000) :
    Calls Try.prog 15 #[v, v2] w fun e w' => e = .returned (.tuple #[.int .i64 (worstA vs ps).1, .bool (worstA vs ps).2]) ∧ Kept w w' := by
  obtain ⟨ao, cap, hsl⟩ := row_nil hv
  subst hsl
  obtain ⟨ao2, cap2, hsl⟩ := row_nil hv2
  subst hsl
  have HR : Hid (Calls Try.prog 51 #[.slice ao vs.length cap] w fun e w' => e = .returned (.bool (decide (ValsP vs))) ∧ Kept w w') := svals vs _ w hv hn
  have HI : Hid (∀ W, Kept w W → Calls Try.prog 57 #[.slice ao2 ps.length cap2, .int .i64 60] W fun e w' => e = .returned (.bool (decide (KeysP 60 ps))) ∧ Kept W w') := fun W k => skeys 60 ps _ W (hv2.kept k) (by omega) (by omega) hn2
  by_cases h1 : ValsP vs
  · have d1 : decide (ValsP vs) = true := decide_eq_true h1
    by_cases h2 : KeysP 60 ps
    · have d2 : decide (KeysP 60 ps) = true := decide_eq_true h2
      have ea : worstA vs ps = (worst vs ps vs.length, true) := if_pos ⟨h1, h2⟩
      rw [ea]
      dsimp only
      have AT : Hid (∀ (W : World) (f : Int), Kept w W → (0 ≤ f ∧ f < 60) → Calls Try.prog 59 #[.slice ao2 ps.length cap2, .int .i64 f] W fun e w' => e = .returned (.int .i64 (atK ps f)) ∧ Kept W w') := fun W f k hf => sat 60 ps f _ W (hv2.kept k) h2 (by omega) (by omega)
      have hl := h1.1.2
      have HV : Hid (NumAt w (.slice ao vs.length cap) vs) := hv
      have H12 : Hid (ValsP vs ∧ KeysP 60 ps) := ⟨h1, h2⟩
      clear hv hv2 h1 h2
      go_enter Try.func15, Try.ntmps15
      go_wp2_with (first | (go_at_call 51; refine HR.out.mono ?_; rw [d1]; rintro e w1 ⟨rfl, k1⟩; dsimp only) | (go_at_call 57; refine (HI.out _ k1).mono ?_; rw [d2]; rintro e w2 ⟨rfl, k2⟩; dsimp only))
      have K2 : Hid (Kept w w2) := k1.trans k2
      clear k1 k2
      go_loopw [6, 20] (fun s i wr => ∃ (k : Nat) (x : Int), k ≤ vs.length ∧ s = .int .i64 x ∧ i = .int .i64 k ∧ Hid (x = worst vs ps k) ∧ Kept w wr) (fun _ i _ => vs.length - (intOf i).toNat)
      case atStart => exact ⟨0, 0, by omega, rfl, rfl, (rfl : (0 : Int) = worst vs ps 0), K2.out⟩
      case round =>
        obtain ⟨j, x, hk, rfl, rfl, HX, hkp⟩ := hrel
        by_cases hlt : j < vs.length
        · obtain ⟨p, hp⟩ : ∃ p, vs[j]? = some p := ⟨_, List.getElem?_eq_getElem hlt⟩
          obtain ⟨bb, o, cap', e, q0⟩ := num_get (HV.out.kept hkp) hp
          cases e
          have hw := worst_bd H12.out.2 H12.out.1.2 j hk
          rw [← HX.out] at hw
          have hpv := H12.out.1.2 p (List.mem_of_getElem? hp)
          have hav := atK_bd H12.out.2 (j : Int)
          have hx := worst_next vs ps hp
          rw [← HX.out] at hx
          have HN : Hid (worst vs ps (j + 1) = max x (dist (atK ps j) p)) := hx
          have AJ := fun W k => AT.out W (j : Int) k (by omega)
          have AJ : Hid (∀ (W : World), Kept w W → Calls Try.prog 59 #[.slice ao2 ps.length cap2, .int .i64 j] W fun e w' => e = .returned (.int .i64 (atK ps j)) ∧ Kept W w') := AJ
          have DS : Hid (∀ W, Calls Try.prog 58 #[.int .i64 (atK ps j - p)] W fun e w' => e = .returned (.int .i64 (dist (atK ps j) p)) ∧ w' = W) := fun W => sabs _ _ W (by omega)
          generalize atK ps j = Z at *
          have ez : IntKind.i64.wrap (Z - p) = Z - p := IntWalk.i64_in _ (by omega)
          generalize dist Z p = Y at *
          have HK : Hid (Kept w wr) := hkp
          clear hp hx hkp
          by_cases hg : x < Y
          · have dg : decide (x < Y) = true := decide_eq_true hg
            go_wp2_with (first | (go_at_call 59; refine (AJ.out _ HK.out).mono ?_; rintro e w3 ⟨rfl, k3⟩; dsimp only) | (go_at_call 58; refine (DS.out _).mono ?_; rintro e _ ⟨rfl, rfl⟩; dsimp only))
            exact ⟨⟨j + 1, Y, hlt, rfl, by go_num, (by rw [HN.out]; omega : Y = worst vs ps (j + 1)), HK.out.trans k3⟩, by simp [intOf]; omega⟩
          · have dg : decide (x < Y) = false := decide_eq_false hg
            go_wp2_with (first | (go_at_call 59; refine (AJ.out _ HK.out).mono ?_; rintro e w3 ⟨rfl, k3⟩; dsimp only) | (go_at_call 58; refine (DS.out _).mono ?_; rintro e _ ⟨rfl, rfl⟩; dsimp only))
            exact ⟨⟨j + 1, x, hlt, rfl, by go_num, (by rw [HN.out]; omega : x = worst vs ps (j + 1)), HK.out.trans k3⟩, by simp [intOf]; omega⟩
        · have hke : j = vs.length := by omega
          subst hke
          go_wp2
          go_ret2
          exact ⟨ret_twoB HX.out rfl, hkp⟩
    · have d2 : decide (KeysP 60 ps) = false := decide_eq_false h2
      have ea : worstA vs ps = (0, false) := if_neg (fun h => h2 h.2)
      rw [ea]
      go_enter Try.func15, Try.ntmps15
      go_wp2_with (first | (go_at_call 51; refine HR.out.mono ?_; rw [d1]; rintro e w1 ⟨rfl, k1⟩; dsimp only) | (go_at_call 57; refine (HI.out _ k1).mono ?_; rw [d2]; rintro e w2 ⟨rfl, k2⟩; dsimp only))
      go_ret2
      exact ⟨rfl, k1.trans k2⟩
  · have d1 : decide (ValsP vs) = false := decide_eq_false h1
    have ea : worstA vs ps = (0, false) := if_neg (fun h => h1 h.1)
    rw [ea]
    go_enter Try.func15, Try.ntmps15
    go_wp2_with (first | (go_at_call 51; refine HR.out.mono ?_; rw [d1]; rintro e w1 ⟨rfl, k1⟩; dsimp only))
    go_ret2
    exact ⟨rfl, k1⟩

end Go.Proofs.Ytpnplfngglfpoaa
