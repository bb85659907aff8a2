/-
  At every text and number the program's PluralOf answers what the specification's PluralOf answers.
-/
import Derived.Test.YtkldfeicpenkmaaRows
import Derived.Test.YtkldfeicpenkmaaSPl19
import Derived.Test.YtkldfeicpenkmaaTong19
import Derived.ChangeMaps
namespace Go.Proofs.Ytkldfeicpenkmaa.fnExactPluralOf
open Go.ChangeShapes Go.WideShapes Go.ChangeAt Go.RowKit
set_option linter.unusedVariables false

theorem own : ownKnob Try.prog.godebug = none := by kernel_rfl

set_option maxRecDepth 100000 in
set_option maxHeartbeats 8000000 in
theorem walk (s : ByteArray) (n r : Int) (w : World) (hlen : s.size ≤ 1048576)
    (hS : ∀ W, Calls Try.prog 7 #[.string s, .int .i64 n] W fun e w' => e = .returned (.int .i64 r) ∧ w' = W) (hI : ∀ W, Calls Try.prog 8 #[.string s, .int .i64 n] W fun e w' => e = .returned (.int .i64 r) ∧ Kept W w') :
    Calls Try.prog 3 #[.string s, .int .i64 n] w fun e w' => e = .returned (.bool true) ∧ Kept w w' := by
  have HS : Hid (∀ W, Calls Try.prog 7 #[.string s, .int .i64 n] W fun e w' => e = .returned (.int .i64 r) ∧ w' = W) := hS
  have HI : Hid (∀ W, Calls Try.prog 8 #[.string s, .int .i64 n] W fun e w' => e = .returned (.int .i64 r) ∧ Kept W w') := hI
  clear hS hI
  have hd : decide ((1048576 : Int) < (s.size : Int)) = false := decide_eq_false (by omega)
  go_enter Try.func3, Try.ntmps3
  repeat (first | (go_at_call 7; refine (HS.out _).mono ?_; rintro e w3 ⟨rfl, hw3⟩; rw [hw3]; clear hw3 w3; dsimp only) | (go_at_call 8; refine (HI.out _).mono ?_; rintro e w4 ⟨rfl, k4⟩; dsimp only) | go_values | go_skip | go_guarded | go_step | go_upon)
  go_ret
  exact ⟨rfl, k4⟩
set_option maxRecDepth 100000 in
set_option maxHeartbeats 8000000 in
theorem big (s : ByteArray) (n : Int) (w : World) (hm : s.size ≤ maxLen) (hlen : 1048576 < s.size) :
    Calls Try.prog 3 #[.string s, .int .i64 n] w fun e w' => e = .returned (.bool true) ∧ Kept w w' := by
  unfold maxLen at hm
  have hd : decide ((1048576 : Int) < (s.size : Int)) = true := decide_eq_true (by omega)
  go_enter Try.func3, Try.ntmps3
  repeat (first | go_values | go_skip | go_guarded | go_step | go_upon)
  go_ret
  exact ⟨rfl, But.refl _ _ _⟩
theorem all (s : ByteArray) (hm : s.size ≤ maxLen) (n : Int) (w : World) (w' : World) (_ : w' = w) :
    Calls Try.prog 3 #[.string s, .int .i64 n] w fun e w' => e = .returned (.bool true) ∧ Kept w w' := by
  by_cases hl : s.size ≤ 1048576
  case neg => exact big s n w hm (by omega)
  by_cases hc : 0 ≤ n ∧ n ≤ 1000000000
  case pos =>
    by_cases h_ar : s.toList = [97, 114]
    · exact walk s n _ w hl (fun W => s_ar s h_ar n hc W) (fun W => p_ar s h_ar n hc W)
    by_cases h_cs : s.toList = [99, 115]
    · exact walk s n _ w hl (fun W => s_cs s h_cs n hc W) (fun W => p_cs s h_cs n hc W)
    by_cases h_en : s.toList = [101, 110]
    · exact walk s n _ w hl (fun W => s_en s h_en n hc W) (fun W => p_en s h_en n hc W)
    by_cases h_fr : s.toList = [102, 114]
    · exact walk s n _ w hl (fun W => s_fr s h_fr n hc W) (fun W => p_fr s h_fr n hc W)
    by_cases h_ja : s.toList = [106, 97]
    · exact walk s n _ w hl (fun W => s_ja s h_ja n hc W) (fun W => p_ja s h_ja n hc W)
    by_cases h_pl : s.toList = [112, 108]
    · exact walk s n _ w hl (fun W => s_pl s h_pl n hc W) (fun W => p_pl s h_pl n hc W)
    by_cases h_ru : s.toList = [114, 117]
    · exact walk s n _ w hl (fun W => s_ru s h_ru n hc W) (fun W => p_ru s h_ru n hc W)
    exact walk s n _ w hl (fun W => s_no s n hc h_ar h_cs h_en h_fr h_ja h_pl h_ru W) (fun W => p_no s n h_ar h_cs h_en h_fr h_ja h_pl h_ru W)
  by_cases h_ar : s.toList = [97, 114]
  · exact walk s n _ w hl (fun W => s_out s n hc W) (fun W => o_ar s h_ar n hc W)
  by_cases h_cs : s.toList = [99, 115]
  · exact walk s n _ w hl (fun W => s_out s n hc W) (fun W => o_cs s h_cs n hc W)
  by_cases h_en : s.toList = [101, 110]
  · exact walk s n _ w hl (fun W => s_out s n hc W) (fun W => o_en s h_en n hc W)
  by_cases h_fr : s.toList = [102, 114]
  · exact walk s n _ w hl (fun W => s_out s n hc W) (fun W => o_fr s h_fr n hc W)
  by_cases h_ja : s.toList = [106, 97]
  · exact walk s n _ w hl (fun W => s_out s n hc W) (fun W => o_ja s h_ja n hc W)
  by_cases h_pl : s.toList = [112, 108]
  · exact walk s n _ w hl (fun W => s_out s n hc W) (fun W => o_pl s h_pl n hc W)
  by_cases h_ru : s.toList = [114, 117]
  · exact walk s n _ w hl (fun W => s_out s n hc W) (fun W => o_ru s h_ru n hc W)
  exact walk s n _ w hl (fun W => s_out s n hc W) (fun W => p_no s n h_ar h_cs h_en h_fr h_ja h_pl h_ru W)


set_option maxRecDepth 100000 in
theorem lifted (os : Os) (started : os.Started) (H : Type) (enc : TypeId × Value → H) :
    ReturnsInHanded {} Try.checked os 3 .any (Rows.fnExactPluralOfSpec.pre6 enc Try.prog Try.f3 Rows.fnExactPluralOfRow.domain false) (Rows.fnExactPluralOfSpec.post enc Try.prog Try.f3 false true false false) := by
  refine returnsInHanded_of_change (C := Try.checked) own started (by kernel_rfl) Try.func3
    (ChangeSpec.witness6 (enc := enc) (C := Try.checked) false ⟨#[], #[.string ByteArray.empty, .int .i64 0], []⟩ 8 (by kernel_rfl) (by kernel_rfl) (by kernel_rfl) (by kernel_rfl)) ?_
  intro W base args ds gs before hval0 hW hcnd _
  have hval : ∀ (j : Nat) t v, Try.f3.params[j]? = some t → args[j]? = some v → Value.okWide Try.prog W .any base t v := hval0
  have hW' := hW
  obtain ⟨p, q, hA0, hV, rfl, hfz, hnd⟩ := hW
  have hA : DataW.TrodAll enc Try.prog W 0 (fun _ => true) true Try.f3.params.toList args.toList ds p := hA0
  rw [Try.params3] at hA hval
  obtain ⟨v0, vs0, d0, ds0, p0, q0, hargs, rfl, rfl, h0, r0⟩ := trodAll_cons hA
  obtain ⟨v1, vs1, d1, ds1, p1, q1, rfl, rfl, rfl, h1, r1⟩ := trodAll_cons r0
  obtain ⟨rfl, rfl, rfl⟩ := trodAll_nil r1
  obtain rfl : args = #[v0, v1] := by cases args; simp_all
  obtain ⟨rfl, rfl⟩ := trodVars_none hV
  obtain ⟨a0, rfl, rfl, rfl, w0⟩ := Go.ChangeMaps.open_string Try.underlying9 (hval 0 9 v0 rfl rfl) h0
  obtain ⟨a1, rfl, rfl, rfl, w1⟩ := open_int Try.underlying3 (hval 1 3 v1 rfl rfl) h1
  clear hA0 hval0
  simp only [List.append_nil] at hW'
  refine (all a0 w0 a1 W W rfl).mono fun e W' ⟨he, hg⟩ => ?_
  subst he
  exact ⟨_, rfl, post_of_kept (pa := _) (pv := []) hW' (fun _ _ _ => (trodAll_cons_mk (shut_bool Try.underlying4 _) trodAll_mk0)) (fun sp hsp => (trodAll_cons_mk (Go.ChangeMaps.shut_string Try.underlying9 w0) (trodAll_cons_mk (shut_int Try.underlying3 w1) trodAll_mk0))) (fun _ _ => rfl) hg⟩

theorem over : Rows.fnExactPluralOfRow.holds Try.pinned (OpenSpec.ofChange Rows.fnExactPluralOfSpec) :=
  OpenClaim.holds_of_wide 3 Try.f3 rfl rfl rfl rfl rfl rfl rfl ⟨rfl, rfl, rfl, rfl, rfl⟩ rfl rfl rfl rfl rfl (by kernel_rfl) Try.func3 (by kernel_rfl)
    (of_decide_eq_true (by kernel_rfl)) (by unfold Func.isWrapper; first | (rw [if_pos (by decide +kernel)]; kernel_rfl) | (rw [if_neg (by decide +kernel)]; exact ⟨rfl, rfl⟩))
    (fun os started H enc _ => lifted os started H enc)

theorem proved : Rows.FnExactPluralOfSaid :=
  over
#print axioms proved
end Go.Proofs.Ytkldfeicpenkmaa.fnExactPluralOf
