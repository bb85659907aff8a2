/-
  BlendPose of the specification.
-/
import Derived.Test.YtpnplfngglfpoaaPose11
namespace Go.Proofs.Ytpnplfngglfpoaa
open Go.ChangeShapes Go.WideShapes Go.ChangeAt Go.RowKit

set_option maxRecDepth 100000
set_option linter.unusedVariables false

set_option maxHeartbeats 4000000 in
theorem sblend (xs ys : List Int) (pt : Int) (ms : List Bool) (va vb vm : Value) (w : World) (hva : NumAt w va xs) (hvb : NumAt w vb ys) (hvm : FlagAt w vm ms) (hn1 : xs.length ≤ 9000000000000000000) (hn2 : ys.length ≤ 9000000000000000000) (hn3 : ms.length ≤ 9000000000000000000) :
    Calls Try.prog 35 #[va, vb, .int .i64 pt, vm] w fun e w' => ∃ v', e = .returned (.tuple #[v', .bool (blendA xs ys pt ms).2]) ∧ NumO w' w.heap.size w'.heap.size v' (blendA xs ys pt ms).1 ∧ Kept w w' := by
  obtain ⟨a1, p1, hsl⟩ := row_nil hva
  subst hsl
  obtain ⟨a2, p2, hsl⟩ := row_nil hvb
  subst hsl
  obtain ⟨a3, p3, hsl⟩ := row_nil hvm
  subst hsl
  rcases (Classical.em (xs.length ≤ 8)).symm with l1 | l1
  · rw [blend_no (fun h => l1 h.1.1)]
    have c1 : decide (8 < (xs.length : Int)) = true := by first | exact beq_eq_false_iff_ne.2 (by omega) | exact beq_iff_eq.2 (by omega) | (simp; omega)
    go_enter Try.func35, Try.ntmps35
    repeat (first | go_values | go_skip | go_guarded | go_step | go_upon)
    go_ret2
    exact ⟨_, rfl, num_nil _ _ _, But.refl _ _ _⟩
  rcases (Classical.em (ys.length = xs.length)).symm with l2 | l2
  · rw [blend_no (fun h => l2 h.1.2.1)]
    have c1 : decide (8 < (xs.length : Int)) = false := by first | exact beq_eq_false_iff_ne.2 (by omega) | exact beq_iff_eq.2 (by omega) | (simp; omega)
    have c2 : (((ys.length : Nat) : Int) == ((xs.length : Nat) : Int)) = false := by first | exact beq_eq_false_iff_ne.2 (by omega) | exact beq_iff_eq.2 (by omega) | (simp; omega)
    go_enter Try.func35, Try.ntmps35
    repeat (first | go_values | go_skip | go_guarded | go_step | go_upon)
    go_ret2
    exact ⟨_, rfl, num_nil _ _ _, But.refl _ _ _⟩
  rcases (Classical.em (ms.length = xs.length)).symm with l3 | l3
  · rw [blend_no (fun h => l3 h.1.2.2)]
    have c1 : decide (8 < (xs.length : Int)) = false := by first | exact beq_eq_false_iff_ne.2 (by omega) | exact beq_iff_eq.2 (by omega) | (simp; omega)
    have c2 : (((ys.length : Nat) : Int) == ((xs.length : Nat) : Int)) = true := by first | exact beq_eq_false_iff_ne.2 (by omega) | exact beq_iff_eq.2 (by omega) | (simp; omega)
    have c3 : (((ms.length : Nat) : Int) == ((xs.length : Nat) : Int)) = false := by first | exact beq_eq_false_iff_ne.2 (by omega) | exact beq_iff_eq.2 (by omega) | (simp; omega)
    go_enter Try.func35, Try.ntmps35
    repeat (first | go_values | go_skip | go_guarded | go_step | go_upon)
    go_ret2
    exact ⟨_, rfl, num_nil _ _ _, But.refl _ _ _⟩
  have c1 : decide (8 < (xs.length : Int)) = false := by simp; omega
  have sb : Value.slice a2 ys.length p2 = .slice a2 xs.length p2 := by rw [l2]
  have sm : Value.slice a3 ms.length p3 = .slice a3 xs.length p3 := by rw [l3]
  rw [sb] at hvb ⊢
  rw [sm] at hvm ⊢
  clear sb sm
  rcases (Classical.em (0 ≤ pt ∧ pt ≤ 65536)).symm with hp | hp
  · rw [blend_no (fun h => hp h.2.1)]
    have dp : decide (0 ≤ pt ∧ pt ≤ 65536) = false := decide_eq_false hp
    go_enter Try.func35, Try.ntmps35
    repeat (first | go_values | go_skip | go_guarded | go_step | go_upon)
    go_at_call 52
    refine (sIn _ _ _ _).mono ?_
    rw [dp]
    rintro e w1 ⟨rfl, hw1⟩
    rw [hw1]
    clear hw1 w1
    dsimp only
    repeat (first | go_values | go_skip | go_guarded | go_step | go_upon)
    go_ret2
    exact ⟨_, rfl, num_nil _ _ _, But.refl _ _ _⟩
  have dp : decide (0 ≤ pt ∧ pt ≤ 65536) = true := decide_eq_true hp
  obtain ⟨i0, hi0, hz0, hz1, hz2⟩ := info_parts infoNum
  have HB : Hid (∀ x, x ∈ xs → ¬ ValP x → blendA xs ys pt ms = ([], false)) := fun x hx hv => blend_no (fun h => hv (h.2.2.1 x hx))
  have HB2 : Hid (∀ x, x ∈ ys → ¬ ValP x → blendA xs ys pt ms = ([], false)) := fun x hx hv => blend_no (fun h => hv (h.2.2.2 x hx))
  generalize hR : blendA xs ys pt ms = R at *
  have HR : Hid (blendA xs ys pt ms = R) := hR
  clear hR
  go_enter Try.func35, Try.ntmps35
  repeat (first | go_values | go_skip | go_guarded | go_step | go_upon)
  go_at_call 52
  refine (sIn _ _ _ _).mono ?_
  rw [dp]
  rintro e w1 ⟨rfl, hw1⟩
  rw [hw1]
  clear hw1 w1
  dsimp only
  repeat (first | go_values | go_skip | go_guarded | go_step | go_upon)
  go_loopw [10, 37] (fun s i wr => ∃ (j : Nat) (ao' : Option Addr) (c' : Nat), j ≤ xs.length ∧ s = .slice ao' j c' ∧ i = .int .i64 j ∧ wr.ownsRow w.heap.size 3 1 (.slice ao' j c') j ((blendL xs ys pt ms j).flatMap numC) ∧ Kept w wr ∧ Hid (∀ i x, i < j → (xs[i]? = some x → ValP x) ∧ (ys[i]? = some x → ValP x))) (fun _ i _ => xs.length - (intOf i).toNat)
  case atStart => exact ⟨0, none, 0, by omega, rfl, rfl, World.ownsRow_nil _ _ _ _, But.refl _ _ _, (fun i x hi => by omega : ∀ i x, i < 0 → (xs[i]? = some x → ValP x) ∧ (ys[i]? = some x → ValP x))⟩
  case round =>
    obtain ⟨j, ao', c', hj, rfl, rfl, hown, hkp, HA⟩ := hrel
    have HO : Hid (wr.ownsRow w.heap.size 3 1 (.slice ao' j c') j ((blendL xs ys pt ms j).flatMap numC)) := hown
    have HK : Hid (Kept w wr) := hkp
    have hwz := hkp.size
    by_cases hlt : j < xs.length
    · obtain ⟨p, hpj⟩ : ∃ p, xs[j]? = some p := ⟨_, List.getElem?_eq_getElem hlt⟩
      obtain ⟨q, hqj⟩ : ∃ p, ys[j]? = some p := ⟨_, List.getElem?_eq_getElem (by omega)⟩
      obtain ⟨m, hmj⟩ : ∃ p, ms[j]? = some p := ⟨_, List.getElem?_eq_getElem (by omega)⟩
      obtain ⟨b1, o1, c1', e, q1⟩ := num_get (hva.kept hkp) hpj
      cases e
      obtain ⟨b2, o2, c2', e, q2⟩ := num_get (hvb.kept hkp) hqj
      rw [l2] at e
      cases e
      obtain ⟨b3, o3, c3', e, q3⟩ := flag_get (hvm.kept hkp) hmj
      rw [l3] at e
      cases e
      have HPQ : Hid (xs[j]? = some p ∧ ys[j]? = some q) := ⟨hpj, hqj⟩
      have HN : Hid (blendL xs ys pt ms (j + 1) = blendL xs ys pt ms j ++ [g1 p q pt m]) := blend_snoc hpj hqj hmj
      clear hown hkp hpj hqj hmj hva hvb hvm
      rcases (Decidable.em (ValP p)).symm with hpv | hpv
      · have d1 : decide (ValP p) = false := decide_eq_false hpv
        have hr := HB.out p (List.mem_of_getElem? HPQ.out.1) hpv
        subst hr
        repeat (first | (go_at_call 73; refine (sval _ _).mono ?_; rw [d1]; rintro e w3 ⟨rfl, hw3⟩; rw [hw3]; clear hw3; dsimp only) | go_values | go_skip | go_guarded | go_step | go_upon)
        go_ret2
        exact ⟨_, rfl, num_nil _ _ _, HK.out⟩
      have d1 : decide (ValP p) = true := decide_eq_true hpv
      rcases (Decidable.em (ValP q)).symm with hqv | hqv
      · have d2 : decide (ValP q) = false := decide_eq_false hqv
        have hr := HB2.out q (List.mem_of_getElem? HPQ.out.2) hqv
        subst hr
        repeat (first | (go_at_call 73; refine (sval _ _).mono ?_; rw [d1]; rintro e w3 ⟨rfl, hw3⟩; rw [hw3]; clear hw3; dsimp only) | (go_at_call 73; refine (sval _ _).mono ?_; rw [d2]; rintro e w3 ⟨rfl, hw3⟩; rw [hw3]; clear hw3; dsimp only) | go_values | go_skip | go_guarded | go_step | go_upon)
        go_ret2
        exact ⟨_, rfl, num_nil _ _ _, HK.out⟩
      have d2 : decide (ValP q) = true := decide_eq_true hqv
      have HA' : Hid (∀ i x, i < j + 1 → (xs[i]? = some x → ValP x) ∧ (ys[i]? = some x → ValP x)) := (show ∀ i x, i < j + 1 → (xs[i]? = some x → ValP x) ∧ (ys[i]? = some x → ValP x) from fun i x hi => by
        by_cases e : i = j
        · subst e
          rw [HPQ.out.1, HPQ.out.2]
          exact ⟨fun h => by cases h; exact hpv, fun h => by cases h; exact hqv⟩
        · exact HA.out i x (by omega))
      cases m with
      | true =>
        have dd : Hid (∀ W, Calls Try.prog 74 #[.int .i64 (q - p), .int .i64 pt] W fun e w' => e = .returned (.int .i64 (mulM (q - p) pt)) ∧ Grown W w') := fun W => smul_any _ _ W
        have hb := mulM_bd (x := q - p) (pt := pt) (by omega) (by omega) (by omega) (by omega)
        have eq : g1 p q pt true = p + mulM (q - p) pt := rfl
        rw [eq] at HN
        clear eq
        generalize mulM (q - p) pt = M at *
        have e1 : IntKind.i64.wrap (q - p) = q - p := IntWalk.i64_in _ (by omega)
        have e2 : IntKind.i64.wrap (p + M) = p + M := IntWalk.i64_in _ (by omega)
        repeat (first
          | (go_at_call 74; refine (dd.out _).mono ?_; rintro e w3 ⟨rfl, k3⟩; have KR : Hid (Kept wr w3) := Kept.of_grown k3; have hz3 := KR.out.size; dsimp only)
          | (go_at_call 73; refine (sval _ _).mono ?_; rw [d1]; rintro e w3 ⟨rfl, hw3⟩; rw [hw3]; clear hw3; dsimp only) | (go_at_call 73; refine (sval _ _).mono ?_; rw [d2]; rintro e w3 ⟨rfl, hw3⟩; rw [hw3]; clear hw3; dsimp only)
          | (at_builtin
             refine wpList_append_own _ rfl _ _ 23 rfl w.heap.size 3 i0 (.int .i64 0) 1 8 Try.underlying23 hi0 hz0 hz1 hz2 rfl (by decide) _ _ _ rfl (own_kept HO.out (KR.out.alloc _)) ⟨w3.heap.size, 0, none⟩ 1 1 [.int .i64 (p + M)] rfl rfl (news1 (Loc.new w3 [.int .i64 (p + M)] 3)) (by simp [Value.oneCell']) (by unfold maxLen; omega) (by omega) (by simp; omega) ?_
             intro v' w9 hown' hgrow _
             obtain ⟨ao5, cap5, hf5, _⟩ := own_form hown'
             subst hf5
             have HK5 : Hid (Kept w w9) := ((HK.out.trans KR.out).alloc _).grown hgrow (by intro x hx; have := own_lt HO.out hx; omega)
             have HW : Hid (w9.ownsRow w.heap.size 3 1 (.slice ao5 (j + 1) cap5) (j + 1) ((blendL xs ys pt ms j).flatMap numC ++ [.int .i64 (p + M)])) := hown'
             clear hgrow hown')
          | go_values | go_skip | go_guarded | go_step | go_upon)
        refine ⟨⟨j + 1, ao5, cap5, hlt, rfl, by go_num, ?_, HK5.out, HA'⟩, by simp [intOf]; omega⟩
        rw [HN.out, List.flatMap_append]
        simpa [numC] using HW.out
      | false =>
        have eq : g1 p q pt false = p := rfl
        rw [eq] at HN
        clear eq
        have KR : Hid (Kept wr wr) := But.refl _ _ _
        repeat (first
          | fail
          | (go_at_call 73; refine (sval _ _).mono ?_; rw [d1]; rintro e w3 ⟨rfl, hw3⟩; rw [hw3]; clear hw3; dsimp only) | (go_at_call 73; refine (sval _ _).mono ?_; rw [d2]; rintro e w3 ⟨rfl, hw3⟩; rw [hw3]; clear hw3; dsimp only)
          | (at_builtin
             refine wpList_append_own _ rfl _ _ 23 rfl w.heap.size 3 i0 (.int .i64 0) 1 8 Try.underlying23 hi0 hz0 hz1 hz2 rfl (by decide) _ _ _ rfl (own_kept HO.out (KR.out.alloc _)) ⟨wr.heap.size, 0, none⟩ 1 1 [.int .i64 (p)] rfl rfl (news1 (Loc.new wr [.int .i64 (p)] 3)) (by simp [Value.oneCell']) (by unfold maxLen; omega) (by omega) (by simp; omega) ?_
             intro v' w9 hown' hgrow _
             obtain ⟨ao5, cap5, hf5, _⟩ := own_form hown'
             subst hf5
             have HK5 : Hid (Kept w w9) := ((HK.out.trans KR.out).alloc _).grown hgrow (by intro x hx; have := own_lt HO.out hx; omega)
             have HW : Hid (w9.ownsRow w.heap.size 3 1 (.slice ao5 (j + 1) cap5) (j + 1) ((blendL xs ys pt ms j).flatMap numC ++ [.int .i64 (p)])) := hown'
             clear hgrow hown')
          | go_values | go_skip | go_guarded | go_step | go_upon)
        refine ⟨⟨j + 1, ao5, cap5, hlt, rfl, by go_num, ?_, HK5.out, HA'⟩, by simp [intOf]; omega⟩
        rw [HN.out, List.flatMap_append]
        simpa [numC] using HW.out
    · have hje : j = xs.length := by omega
      subst hje
      have hall : BlendP xs ys pt ms := ⟨⟨l1, l2, l3⟩, hp, fun x hx => by
          obtain ⟨i, hi, rfl⟩ := List.getElem_of_mem hx
          exact (HA.out i _ hi).1 (List.getElem?_eq_getElem hi), fun x hx => by
          obtain ⟨i, hi, rfl⟩ := List.getElem_of_mem hx
          exact (HA.out i _ (by omega)).2 (List.getElem?_eq_getElem hi)⟩
      have hr : (blendL xs ys pt ms xs.length, true) = R := (blend_yes hall).symm.trans HR.out
      subst hr
      repeat (first | go_values | go_skip | go_guarded | go_step | go_upon)
      go_ret2
      refine ⟨_, rfl, ?_, hkp⟩
      have := RowO.top HO.out
      unfold NumO
      rw [blend_len]
      exact this

end Go.Proofs.Ytpnplfngglfpoaa
