/-
  BlendPose of the program.
-/
import Derived.Test.YtpnplfngglfpoaaPose11
namespace Go.Proofs.Ytpnplfngglfpoaa
open Go.ChangeShapes Go.WideShapes Go.ChangeAt Go.RowKit

set_option maxRecDepth 100000
set_option linter.unusedVariables false

set_option maxHeartbeats 4000000 in
theorem iblend (xs ys : List Int) (pt : Int) (ms : List Bool) (va vb vm : Value) (w : World) (hva : NumAt w va xs) (hvb : NumAt w vb ys) (hvm : FlagAt w vm ms) (hn1 : xs.length ≤ 9000000000000000000) (hn2 : ys.length ≤ 9000000000000000000) (hn3 : ms.length ≤ 9000000000000000000) :
    Calls Try.prog 37 #[va, vb, .int .i64 pt, vm] w fun e w' => ∃ v', e = .returned (.tuple #[v', .bool (blendA xs ys pt ms).2]) ∧ NumO w' w.heap.size w'.heap.size v' (blendA xs ys pt ms).1 ∧ Kept w w' := by
  obtain ⟨a1, p1, hsl⟩ := row_nil hva
  subst hsl
  obtain ⟨a2, p2, hsl⟩ := row_nil hvb
  subst hsl
  obtain ⟨a3, p3, hsl⟩ := row_nil hvm
  subst hsl
  rcases (Classical.em (xs.length ≤ 8)).symm with l1 | l1
  · rw [blend_no (fun h => l1 h.1.1)]
    have c1 : decide (8 < (xs.length : Int)) = true := by first | exact beq_eq_false_iff_ne.2 (by omega) | exact beq_iff_eq.2 (by omega) | (simp; omega)
    go_enter Try.func37, Try.ntmps37
    repeat (first | go_values | go_skip | go_guarded | go_step | go_upon)
    go_ret2
    exact ⟨_, rfl, num_nil _ _ _, But.refl _ _ _⟩
  rcases (Classical.em (ys.length = xs.length)).symm with l2 | l2
  · rw [blend_no (fun h => l2 h.1.2.1)]
    have c1 : decide (8 < (xs.length : Int)) = false := by first | exact beq_eq_false_iff_ne.2 (by omega) | exact beq_iff_eq.2 (by omega) | (simp; omega)
    have c2 : (((xs.length : Nat) : Int) == ((ys.length : Nat) : Int)) = false := by first | exact beq_eq_false_iff_ne.2 (by omega) | exact beq_iff_eq.2 (by omega) | (simp; omega)
    go_enter Try.func37, Try.ntmps37
    repeat (first | go_values | go_skip | go_guarded | go_step | go_upon)
    go_ret2
    exact ⟨_, rfl, num_nil _ _ _, But.refl _ _ _⟩
  rcases (Classical.em (ms.length = xs.length)).symm with l3 | l3
  · rw [blend_no (fun h => l3 h.1.2.2)]
    have c1 : decide (8 < (xs.length : Int)) = false := by first | exact beq_eq_false_iff_ne.2 (by omega) | exact beq_iff_eq.2 (by omega) | (simp; omega)
    have c2 : (((xs.length : Nat) : Int) == ((ys.length : Nat) : Int)) = true := by first | exact beq_eq_false_iff_ne.2 (by omega) | exact beq_iff_eq.2 (by omega) | (simp; omega)
    have c3 : (((xs.length : Nat) : Int) == ((ms.length : Nat) : Int)) = false := by first | exact beq_eq_false_iff_ne.2 (by omega) | exact beq_iff_eq.2 (by omega) | (simp; omega)
    go_enter Try.func37, Try.ntmps37
    repeat (first | go_values | go_skip | go_guarded | go_step | go_upon)
    go_ret2
    exact ⟨_, rfl, num_nil _ _ _, But.refl _ _ _⟩
  have c1 : decide (8 < (xs.length : Int)) = false := by simp; omega
  have sb : Value.slice a2 ys.length p2 = .slice a2 xs.length p2 := by rw [l2]
  have sm : Value.slice a3 ms.length p3 = .slice a3 xs.length p3 := by rw [l3]
  rw [sb] at hvb ⊢
  rw [sm] at hvm ⊢
  clear sb sm
  have H1 : Hid (Calls Try.prog 75 #[.slice a1 xs.length p1] w fun e w' => e = .returned (.bool (decide (∀ v ∈ xs, ValP v))) ∧ Kept w w') := ivals xs _ w hva hn1
  have H2 : Hid (∀ W, Kept w W → Calls Try.prog 75 #[.slice a2 xs.length p2] W fun e w' => e = .returned (.bool (decide (∀ v ∈ ys, ValP v))) ∧ Kept W w') := fun W k => ivals ys _ W (hvb.kept k) hn2
  rcases (Classical.em (∀ v ∈ xs, ValP v)).symm with h1 | h1
  · rw [blend_no (fun h => h1 h.2.2.1)]
    rw [decide_eq_false h1] at H1
    clear h1
    go_enter Try.func37, Try.ntmps37
    repeat (first | go_values | go_skip | go_guarded | go_step | go_upon)
    go_at_call 75
    refine (H1.out).mono ?_
    rintro e w1 ⟨rfl, k1⟩
    dsimp only
    repeat (first | go_values | go_skip | go_guarded | go_step | go_upon)
    go_ret2
    exact ⟨_, rfl, num_nil _ _ _, k1⟩
  rw [decide_eq_true h1] at H1
  rcases (Classical.em (∀ v ∈ ys, ValP v)).symm with h2 | h2
  · rw [blend_no (fun h => h2 h.2.2.2)]
    rw [decide_eq_false h2] at H2
    clear h1 h2
    go_enter Try.func37, Try.ntmps37
    repeat (first | go_values | go_skip | go_guarded | go_step | go_upon)
    go_at_call 75
    refine (H1.out).mono ?_
    rintro e w1 ⟨rfl, k1⟩
    dsimp only
    repeat (first | go_values | go_skip | go_guarded | go_step | go_upon)
    go_at_call 75
    refine (H2.out _ k1).mono ?_
    rintro e w2 ⟨rfl, k2⟩
    dsimp only
    repeat (first | go_values | go_skip | go_guarded | go_step | go_upon)
    go_ret2
    exact ⟨_, rfl, num_nil _ _ _, k1.trans k2⟩
  rw [decide_eq_true h2] at H2
  have HH : Hid ((∀ v ∈ xs, ValP v) ∧ ∀ v ∈ ys, ValP v) := ⟨h1, h2⟩
  clear h1 h2
  rcases (Classical.em (0 ≤ pt)).symm with hp | hp
  · rw [blend_no (fun h => hp h.2.1.1)]
    have e1 : decide (pt < 0) = true := by first | exact beq_eq_false_iff_ne.2 (by omega) | exact beq_iff_eq.2 (by omega) | (simp; omega)
    go_enter Try.func37, Try.ntmps37
    repeat (first | go_values | go_skip | go_guarded | go_step | go_upon)
    go_at_call 75
    refine (H1.out).mono ?_
    rintro e w1 ⟨rfl, k1⟩
    dsimp only
    repeat (first | go_values | go_skip | go_guarded | go_step | go_upon)
    go_at_call 75
    refine (H2.out _ k1).mono ?_
    rintro e w2 ⟨rfl, k2⟩
    dsimp only
    repeat (first | go_values | go_skip | go_guarded | go_step | go_upon)
    go_ret2
    exact ⟨_, rfl, num_nil _ _ _, k1.trans k2⟩
  have e1 : decide (pt < 0) = false := by simp; omega
  rcases (Classical.em (pt ≤ 65536)).symm with hp2 | hp2
  · rw [blend_no (fun h => hp2 h.2.1.2)]
    have e2 : decide (65536 < pt) = true := by first | exact beq_eq_false_iff_ne.2 (by omega) | exact beq_iff_eq.2 (by omega) | (simp; omega)
    go_enter Try.func37, Try.ntmps37
    repeat (first | go_values | go_skip | go_guarded | go_step | go_upon)
    go_at_call 75
    refine (H1.out).mono ?_
    rintro e w1 ⟨rfl, k1⟩
    dsimp only
    repeat (first | go_values | go_skip | go_guarded | go_step | go_upon)
    go_at_call 75
    refine (H2.out _ k1).mono ?_
    rintro e w2 ⟨rfl, k2⟩
    dsimp only
    repeat (first | go_values | go_skip | go_guarded | go_step | go_upon)
    go_ret2
    exact ⟨_, rfl, num_nil _ _ _, k1.trans k2⟩
  have e2 : decide (65536 < pt) = false := by simp; omega
  rw [blend_yes ⟨⟨l1, l2, l3⟩, ⟨hp, hp2⟩, HH.out⟩]
  dsimp only
  obtain ⟨i0, hi0, hz0, hz1, hz2⟩ := info_parts infoNum
  go_enter Try.func37, Try.ntmps37
  repeat (first | go_values | go_skip | go_guarded | go_step | go_upon)
  go_at_call 75
  refine (H1.out).mono ?_
  rintro e w1 ⟨rfl, k1⟩
  dsimp only
  repeat (first | go_values | go_skip | go_guarded | go_step | go_upon)
  go_at_call 75
  refine (H2.out _ k1).mono ?_
  rintro e w2 ⟨rfl, k2⟩
  dsimp only
  repeat (first | go_values | go_skip | go_guarded | go_step | go_upon)
  have K2 : Hid (Kept w w2) := k1.trans k2
  clear k1 k2 H1 H2 e1 e2
  go_loopw [10, 48] (fun s i wr => ∃ (j : Nat) (ao' : Option Addr) (c' : Nat), j ≤ xs.length ∧ s = .slice ao' j c' ∧ i = .int .i64 j ∧ wr.ownsRow w.heap.size 3 1 (.slice ao' j c') j ((blendL xs ys pt ms j).flatMap numC) ∧ Kept w wr) (fun _ i _ => xs.length - (intOf i).toNat)
  case atStart => exact ⟨0, none, 0, by omega, rfl, rfl, World.ownsRow_nil _ _ _ _, K2.out⟩
  case round =>
    obtain ⟨j, ao', c', hj, rfl, rfl, hown, hkp⟩ := hrel
    have HO : Hid (wr.ownsRow w.heap.size 3 1 (.slice ao' j c') j ((blendL xs ys pt ms j).flatMap numC)) := hown
    have HK : Hid (Kept w wr) := hkp
    have hwz := hkp.size
    by_cases hlt : j < xs.length
    · obtain ⟨p, hpj⟩ : ∃ p, xs[j]? = some p := ⟨_, List.getElem?_eq_getElem hlt⟩
      obtain ⟨q, hqj⟩ : ∃ p, ys[j]? = some p := ⟨_, List.getElem?_eq_getElem (by omega)⟩
      obtain ⟨m, hmj⟩ : ∃ p, ms[j]? = some p := ⟨_, List.getElem?_eq_getElem (by omega)⟩
      obtain ⟨b1, o1, c1', e, q1⟩ := num_get (hva.kept hkp) hpj
      cases e
      obtain ⟨b2, o2, c2', e, q2⟩ := num_get (hvb.kept hkp) hqj
      rw [l2] at e
      cases e
      obtain ⟨b3, o3, c3', e, q3⟩ := flag_get (hvm.kept hkp) hmj
      rw [l3] at e
      cases e
      have hpv := HH.out.1 p (List.mem_of_getElem? hpj)
      have hqv := HH.out.2 q (List.mem_of_getElem? hqj)
      have HN : Hid (blendL xs ys pt ms (j + 1) = blendL xs ys pt ms j ++ [g1 p q pt m]) := blend_snoc hpj hqj hmj
      clear hown hkp hpj hqj hmj hva hvb hvm
      cases m with
      | true =>
        have dd : Hid (∀ W, Calls Try.prog 76 #[.int .i64 (q - p), .int .i64 pt] W fun e w' => e = .returned (.int .i64 (mulM (q - p) pt)) ∧ w' = W) := fun W => imul_any _ _ W
        have hb := mulM_bd (x := q - p) (pt := pt) (by omega) (by omega) (by omega) (by omega)
        have eq : g1 p q pt true = p + mulM (q - p) pt := rfl
        rw [eq] at HN
        clear eq
        generalize mulM (q - p) pt = M at *
        have e1 : IntKind.i64.wrap (q - p) = q - p := IntWalk.i64_in _ (by omega)
        have e2 : IntKind.i64.wrap (p + M) = p + M := IntWalk.i64_in _ (by omega)
        have KR : Hid (Kept wr wr) := But.refl _ _ _
        repeat (first
          | (go_at_call 76; refine (dd.out _).mono ?_; rintro e w3 ⟨rfl, hw3⟩; rw [hw3]; clear hw3; dsimp only)
          | (at_builtin
             refine wpList_append_own _ rfl _ _ 23 rfl w.heap.size 3 i0 (.int .i64 0) 1 8 Try.underlying23 hi0 hz0 hz1 hz2 rfl (by decide) _ _ _ rfl (own_kept HO.out (KR.out.alloc _)) ⟨wr.heap.size, 0, none⟩ 1 1 [.int .i64 (p + M)] rfl rfl (news1 (Loc.new wr [.int .i64 (p + M)] 3)) (by simp [Value.oneCell']) (by unfold maxLen; omega) (by omega) (by simp; omega) ?_
             intro v' w9 hown' hgrow _
             obtain ⟨ao5, cap5, hf5, _⟩ := own_form hown'
             subst hf5
             have HK5 : Hid (Kept w w9) := ((HK.out.trans KR.out).alloc _).grown hgrow (by intro x hx; have := own_lt HO.out hx; omega)
             have HW : Hid (w9.ownsRow w.heap.size 3 1 (.slice ao5 (j + 1) cap5) (j + 1) ((blendL xs ys pt ms j).flatMap numC ++ [.int .i64 (p + M)])) := hown'
             clear hgrow hown')
          | go_values | go_skip | go_guarded | go_step | go_upon)
        refine ⟨⟨j + 1, ao5, cap5, hlt, rfl, by go_num, ?_, HK5.out⟩, by simp [intOf]; omega⟩
        rw [HN.out, List.flatMap_append]
        simpa [numC] using HW.out
      | false =>
        have eq : g1 p q pt false = p := rfl
        rw [eq] at HN
        clear eq
        have KR : Hid (Kept wr wr) := But.refl _ _ _
        repeat (first
          | fail
          | (at_builtin
             refine wpList_append_own _ rfl _ _ 23 rfl w.heap.size 3 i0 (.int .i64 0) 1 8 Try.underlying23 hi0 hz0 hz1 hz2 rfl (by decide) _ _ _ rfl (own_kept HO.out (KR.out.alloc _)) ⟨wr.heap.size, 0, none⟩ 1 1 [.int .i64 (p)] rfl rfl (news1 (Loc.new wr [.int .i64 (p)] 3)) (by simp [Value.oneCell']) (by unfold maxLen; omega) (by omega) (by simp; omega) ?_
             intro v' w9 hown' hgrow _
             obtain ⟨ao5, cap5, hf5, _⟩ := own_form hown'
             subst hf5
             have HK5 : Hid (Kept w w9) := ((HK.out.trans KR.out).alloc _).grown hgrow (by intro x hx; have := own_lt HO.out hx; omega)
             have HW : Hid (w9.ownsRow w.heap.size 3 1 (.slice ao5 (j + 1) cap5) (j + 1) ((blendL xs ys pt ms j).flatMap numC ++ [.int .i64 (p)])) := hown'
             clear hgrow hown')
          | go_values | go_skip | go_guarded | go_step | go_upon)
        refine ⟨⟨j + 1, ao5, cap5, hlt, rfl, by go_num, ?_, HK5.out⟩, by simp [intOf]; omega⟩
        rw [HN.out, List.flatMap_append]
        simpa [numC] using HW.out
    · have hje : j = xs.length := by omega
      subst hje
      repeat (first | go_values | go_skip | go_guarded | go_step | go_upon)
      go_ret2
      refine ⟨_, rfl, ?_, hkp⟩
      have := RowO.top HO.out
      unfold NumO
      rw [blend_len]
      exact this

end Go.Proofs.Ytpnplfngglfpoaa
