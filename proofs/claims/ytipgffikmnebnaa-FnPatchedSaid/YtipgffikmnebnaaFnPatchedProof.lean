/-
  For every list of bytes: what is drawn, patched and taken up again is the new bytes.
-/
import Derived.Test.YtipgffikmnebnaaRows
import Derived.Test.YtipgffikmnebnaaDPat21
import Derived.Test.YtipgffikmnebnaaSPatch21
import Derived.Test.YtipgffikmnebnaaIPatch21
import Derived.Test.YtipgffikmnebnaaIApply21
import Derived.Test.YtipgffikmnebnaaQuiet
import Derived.ChangeMaps
namespace Go.Proofs.Ytipgffikmnebnaa.fnPatched
open Go.ChangeShapes Go.WideShapes Go.ChangeAt Go.RowKit
set_option linter.unusedVariables false

theorem own : ownKnob Try.prog.godebug = none := by kernel_rfl


set_option maxRecDepth 100000 in
set_option maxHeartbeats 8000000 in
theorem walk (ao : Option Addr) (len cap : Nat) (w : World) (hc : Code w ao len) (hl : len ≤ 1048576) :
    Calls Try.prog 4 #[.slice ao len cap] w fun e w' => e = .returned (.bool true) ∧ Kept w w' := by
  have HC := hide hc
  have hd0 : decide ((1048576 : Int) < (len : Int)) = false := decide_eq_false (by omega)
  clear hc
  go_enter Try.func4, Try.ntmps4
  repeat (first | go_values | go_skip | go_guarded | go_step | go_upon)
  go_at_call 21
  refine (draw_ok ao len cap _ HC.out hl).mono ?_
  rintro e w1 ⟨l, m, a1, a2, c1, c2, rfl, hl1, hm1, o1, o2, k1⟩
  have HO1 := hide o1
  have HO2 := hide o2
  have HK1 := hide k1
  have hp1 := cap_byt o1
  have hp2 := cap_byt o2
  obtain ⟨jb, hjb⟩ : ∃ q, decide (l.length ≤ 400 ∧ m.length ≤ 400) = q := ⟨_, rfl⟩
  have HI : Hid (∀ W, Kept w1 W → Calls Try.prog 22 #[.slice a1 l.length c1, .slice a2 m.length c2] W fun e w' => ∃ v', e = .returned (.tuple #[v', .bool jb]) ∧ ChunksO w' W.heap.size w'.heap.size v' (patchA l m) ∧ Kept W w') := fun W k => by rw [← hjb]; exact ipatch l m a1 a2 c1 c2 W (HO1.out.kept k).at (HO2.out.kept k).at hp1 hp2 (by omega) (by omega)
  have HS : Hid (∀ W, Kept w1 W → Calls Try.prog 23 #[.slice a1 l.length c1, .slice a2 m.length c2] W fun e w' => ∃ v', e = .returned (.tuple #[v', .bool jb]) ∧ ChunksO w' W.heap.size w'.heap.size v' (patchA l m) ∧ Kept W w') := fun W k => by rw [← hjb]; exact spatch l m a1 a2 c1 c2 W (HO1.out.kept k).at (HO2.out.kept k).at hp1 hp2 (by omega) (by omega)
  clear o1 o2 k1 hd0
  dsimp only
  by_cases h4 : l.length ≤ 400 ∧ m.length ≤ 400
  · have e1 : jb = true := by rw [← hjb]; exact decide_eq_true h4
    subst e1
    have hg := patch_gives h4.1 h4.2
    have hcst := patchA_cost l m
    have hrng := patchA_rng l m
    have HAP : Hid (∀ W (a3 : Option Addr) (c3 : Nat), Kept w1 W → ChunksAt W (.slice a3 (patchA l m).length c3) (patchA l m) → Calls Try.prog 24 #[.slice a1 l.length c1, .slice a3 (patchA l m).length c3] W fun e w' => ∃ a4 c4, e = .returned (.tuple #[.slice a4 m.length c4, .bool true]) ∧ BytAt w' (.slice a4 m.length c4) m ∧ Kept W w') := fun W a3 c3 k hch => by
      refine (iapply l (patchA l m) a1 c1 _ W (HO1.out.kept k).at hp1 hch (by omega) (by omega) hrng).mono ?_
      rintro e w' ⟨v', rfl, o, k'⟩
      rw [hg] at o ⊢
      obtain ⟨a4, c4, hf⟩ := o.form
      subst hf
      exact ⟨a4, c4, rfl, o.at, k'⟩
    generalize patchA l m = PP at *
    clear hg hcst hrng h4 hjb
    repeat (first
      | (go_at_call 22
         refine (HI.out _ (But.refl _ _ _)).mono ?_
         rintro e w2 ⟨v2, rfl, o3, k2⟩
         obtain ⟨a3, c3, hf⟩ := o3.form
         subst hf
         have HO3 := hide o3
         have HK2 := hide k2
         clear o3 k2
         dsimp only)
      | (go_at_call 23
         refine (HS.out _ HK2.out).mono ?_
         rintro e w3 ⟨v3, rfl, _, k3⟩
         have HK3 := hide k3
         clear k3
         dsimp only)
      | (go_at_call 24
         refine (HAP.out _ a3 c3 (HK2.out.trans HK3.out) (HO3.out.kept HK3.out).at).mono ?_
         rintro e w4 ⟨a4, c4, rfl, o4, k4⟩
         have HO4 := hide o4
         have HK4 := hide k4
         clear o4 k4
         dsimp only)
      | (go_at_call 25
         refine (same_bytes m a4 a2 c4 c2 _ HO4.out (((HO2.out.kept HK2.out).kept HK3.out).kept HK4.out).at).mono ?_
         rintro e w5 ⟨rfl, k5⟩
         dsimp only)
      | go_values | go_skip | go_guarded | go_step | go_upon)
    go_ret
    exact ⟨rfl, (((HK1.out.trans HK2.out).trans HK3.out).trans HK4.out).trans k5⟩
  · have e1 : jb = false := by rw [← hjb]; exact decide_eq_false h4
    have hR : patchA l m = [] := by unfold patchA; rw [if_neg h4]
    subst e1
    rw [hR] at HI HS
    clear h4 hjb hR
    repeat (first
      | (go_at_call 22
         refine (HI.out _ (But.refl _ _ _)).mono ?_
         rintro e w2 ⟨v2, rfl, o3, k2⟩
         obtain ⟨a3, c3, hf⟩ := o3.form
         subst hf
         have HK2 := hide k2
         clear o3 k2
         dsimp only)
      | (go_at_call 23
         refine (HS.out _ HK2.out).mono ?_
         rintro e w3 ⟨v3, rfl, _, k3⟩
         have HK3 := hide k3
         clear k3
         dsimp only)
      | go_values | go_skip | go_guarded | go_step | go_upon)
    go_ret
    exact ⟨rfl, (HK1.out.trans HK2.out).trans HK3.out⟩
theorem big (ao : Option Addr) (len cap : Nat) (w : World) (hm : len ≤ 9223372036854775807) (hb : 1048576 < len) :
    Calls Try.prog 4 #[.slice ao len cap] w fun e w' => e = .returned (.bool true) ∧ Kept w w' := by
  have hd0 : decide ((1048576 : Int) < (len : Int)) = true := by simp; omega
  go_enter Try.func4, Try.ntmps4
  repeat (first | go_values | go_skip | go_guarded | go_step | go_upon)
  go_ret
  exact ⟨rfl, But.refl _ _ _⟩
theorem all (ao : Option Addr) (len cap : Nat) (hm : len ≤ 9223372036854775807) {w : World} (hc : Code w ao len) (w' : World) (_ : w' = w) :
    Calls Try.prog 4 #[.slice ao len cap] w fun e w' => e = .returned (.bool true) ∧ Kept w w' := by
  by_cases h : len ≤ 1048576
  · exact walk ao len cap w hc h
  · exact big ao len cap w hm (by omega)


set_option maxRecDepth 100000 in
theorem lifted (os : Os) (started : os.Started) (H : Type) (enc : TypeId × Value → H) :
    ReturnsInHanded {} Try.checked os 4 .any (Rows.fnPatchedSpec.pre6 enc Try.prog Try.f4 Rows.fnPatchedRow.domain false) (Rows.fnPatchedSpec.post enc Try.prog Try.f4 false true false false) := by
  refine returnsInHanded_of_change (C := Try.checked) own started (by kernel_rfl) Try.func4
    (ChangeSpec.witness6 (enc := enc) (C := Try.checked) false ⟨#[], #[.slice none 0 0], []⟩ 8 (by kernel_rfl) (by kernel_rfl) (by kernel_rfl) (by kernel_rfl)) ?_
  intro W base args ds gs before hval0 hW hcnd _
  have hval : ∀ (j : Nat) t v, Try.f4.params[j]? = some t → args[j]? = some v → Value.okWide Try.prog W .any base t v := hval0
  have hW' := hW
  obtain ⟨p, q, hA0, hV, rfl, hfz, hnd⟩ := hW
  have hA : DataW.TrodAll enc Try.prog W 0 (fun _ => true) true Try.f4.params.toList args.toList ds p := hA0
  rw [Try.params4] at hA hval
  obtain ⟨v0, vs0, d0, ds0, p0, q0, hargs, rfl, rfl, h0, r0⟩ := trodAll_cons hA
  obtain ⟨rfl, rfl, rfl⟩ := trodAll_nil r0
  obtain rfl : args = #[v0] := by cases args; simp_all
  obtain ⟨rfl, rfl⟩ := trodVars_none hV
  obtain ⟨ao0, len0, cap0, e0, hm0, hc0⟩ := code_of (hval 0 22 v0 rfl rfl) h0
  subst e0
  clear hA0 hval0
  simp only [List.append_nil] at hW'
  refine (all ao0 len0 cap0 hm0 hc0 W rfl).mono fun e W' ⟨he, hg⟩ => ?_
  subst he
  exact ⟨_, rfl, post_of_kept (pa := _) (pv := []) hW' (fun _ _ _ => (trodAll_cons_mk (shut_bool Try.underlying4 _) trodAll_mk0)) (fun sp hsp => (trodAll_cons_mk (kept_trod (by kernel_rfl) (of_decide_eq_true (by kernel_rfl)) h0 hg (fun x hx => hW'.lt x (by simp [hx])) (fun x hx => hsp x (by simp [hx]))) trodAll_mk0)) (fun _ _ => rfl) hg⟩

theorem over : Rows.fnPatchedRow.holds Try.pinned (OpenSpec.ofChange Rows.fnPatchedSpec) :=
  OpenClaim.holds_of_wide 4 Try.f4 rfl rfl rfl rfl rfl rfl rfl ⟨rfl, rfl, rfl, rfl, rfl⟩ rfl rfl rfl rfl rfl (by kernel_rfl) Try.func4 (by kernel_rfl)
    (of_decide_eq_true (by kernel_rfl)) (by unfold Func.isWrapper; first | (rw [if_pos (by decide +kernel)]; kernel_rfl) | (rw [if_neg (by decide +kernel)]; exact ⟨rfl, rfl⟩))
    (fun os started H enc _ => lifted os started H enc)

theorem proved : Rows.FnPatchedSaid :=
  over
#print axioms proved
end Go.Proofs.Ytipgffikmnebnaa.fnPatched
