/-
  At every list of nodes and path the program's FindNode answers what the specification's FindNode answers, and writes into no argument.
-/
import Derived.Test.YtcljppnakmeldaaRows
import Derived.Test.YtcljppnakmeldaaSize
import Derived.Test.YtcljppnakmeldaaTo
import Derived.Test.YtcljppnakmeldaaEq
import Derived.Test.YtcljppnakmeldaaPathOf
import Derived.Test.YtcljppnakmeldaaOpen
import Derived.ChangeMaps
namespace Go.Proofs.Ytcljppnakmeldaa.fnExactFindNode
open Go.ChangeShapes Go.WideShapes Go.ChangeAt Go.RowKit
set_option linter.unusedVariables false

theorem own : ownKnob Try.prog.godebug = none := by kernel_rfl

set_option maxRecDepth 100000 in
set_option maxHeartbeats 4000000 in
theorem walk (l : List NodeD) (p : ByteArray) (hp : p.size ≤ 1048576) (b : Int) (v : Value) (w : World) (hv : NodeAt w v l) (hn : l.length ≤ 9223372036854775807) (hq : ∀ p ∈ l, p.1.size ≤ 9223372036854775807) (hl : nodeCost l ≤ 1048576)
    (hS : ∀ (u : World) (lo hi : Nat) (v : Value), NodeO u lo hi v l → Calls Try.prog 33 #[v, .string p] u fun e u' => e = .returned (.int .i64 b) ∧ Kept u u')
    (hI : ∀ (u : World) (lo hi : Nat) (v : Value), NodeO u lo hi v l → Calls Try.prog 34 #[v, .string p] u fun e u' => e = .returned (.int .i64 b) ∧ Kept u u') :
    Calls Try.prog 10 #[v, .string p] w fun e w' => e = .returned (.bool true) ∧ Kept w w' := by
  have hlen : l.length ≤ 1048576 := by unfold nodeCost at hl; omega
  have hdl : decide ((1048576 : Int) - (nodeCost l : Int) < 0) = false := by simp; omega
  obtain ⟨ao, cap, hfm⟩ := row_nil hv
  subst hfm
  have HS : Hid _ := hS
  have HI : Hid _ := hI
  clear hS hI
  have hpd : decide (1048576 < (p.size : Int)) = false := by simp; omega
  go_enter Try.func10, Try.ntmps10
  repeat (first | go_values | go_skip | go_guarded | go_step | go_upon)
  go_at_call 20
  refine (szNodeS l _ _ _ hv (by omega) (by omega) hn hq).mono ?_
  rintro e u1 ⟨rfl, k1⟩
  rw [leftOf_yes (by omega)]
  dsimp only
  repeat (first | go_values | go_skip | go_guarded | go_step | go_upon)
  go_at_call 22
  refine (toNodeS l _ _ (hv.kept k1) hlen).mono ?_
  rintro e u2 ⟨v2, rfl, o2, k2⟩
  have K2 := k1.trans k2
  obtain ⟨ao2, cap2, hfm⟩ := o2.form
  subst hfm
  dsimp only
  repeat (first | go_values | go_skip | go_guarded | go_step | go_upon)
  go_at_call 33
  refine (HS.out _ _ _ _ o2).mono ?_
  rintro e u3 ⟨rfl, k3⟩
  have K3 := K2.trans k3
  clear o2
  dsimp only
  repeat (first | go_values | go_skip | go_guarded | go_step | go_upon)
  go_at_call 22
  refine (toNodeS l _ _ (hv.kept K3) hlen).mono ?_
  rintro e u4 ⟨v4, rfl, o4, k4⟩
  have K4 := K3.trans k4
  obtain ⟨ao4, cap4, hfm⟩ := o4.form
  subst hfm
  dsimp only
  repeat (first | go_values | go_skip | go_guarded | go_step | go_upon)
  go_at_call 34
  refine (HI.out _ _ _ _ o4).mono ?_
  rintro e u5 ⟨rfl, k5⟩
  have K5 := K4.trans k5
  have o4 := o4.kept k5
  clear k1 k2 k3 k4 k5 K2 K3 K4
  dsimp only
  repeat (first | go_values | go_skip | go_guarded | go_step | go_upon)
  go_at_call 22
  refine (toNodeS l _ _ (hv.kept K5) hlen).mono ?_
  rintro e u6 ⟨v6, rfl, o6, k6⟩
  have K6 := K5.trans k6
  obtain ⟨ao6, cap6, hfm⟩ := o6.form
  subst hfm
  dsimp only
  repeat (first | go_values | go_skip | go_guarded | go_step | go_upon)
  go_at_call 24
  refine (eqNodeS l _ _ _ (o4.at.kept k6) o6.at (by omega)).mono ?_
  rintro e u7 ⟨rfl, k7⟩
  have K7 := K6.trans k7
  dsimp only
  repeat (first | go_values | go_skip | go_guarded | go_step | go_upon)
  go_ret
  exact ⟨rfl, K7⟩

set_option maxRecDepth 100000 in
set_option maxHeartbeats 1000000 in
theorem big (l : List NodeD) (p : ByteArray) (hp : p.size ≤ 1048576) (v : Value) (w : World) (hv : NodeAt w v l) (hn : l.length ≤ 9223372036854775807) (hq : ∀ p ∈ l, p.1.size ≤ 9223372036854775807) (hl : 1048576 < nodeCost l) :
    Calls Try.prog 10 #[v, .string p] w fun e w' => e = .returned (.bool true) ∧ Kept w w' := by
  obtain ⟨ao, cap, hfm⟩ := row_nil hv
  subst hfm
  have hpd : decide (1048576 < (p.size : Int)) = false := by simp; omega
  go_enter Try.func10, Try.ntmps10
  repeat (first | go_values | go_skip | go_guarded | go_step | go_upon)
  go_at_call 20
  refine (szNodeS l _ _ _ hv (by omega) (by omega) hn hq).mono ?_
  rintro e u1 ⟨rfl, k1⟩
  rw [leftOf_no (by omega)]
  dsimp only
  repeat (first | go_values | go_skip | go_guarded | go_step | go_upon)
  go_ret
  exact ⟨rfl, k1⟩

theorem name_le {l : List NodeD} (hl : nodeCost l ≤ 1048576) : ∀ p ∈ l, p.1.size ≤ 1048576 := fun p hp => by
  obtain ⟨i, hi⟩ := List.mem_iff_getElem?.1 hp
  have := nodeSum_le hi
  unfold nodeCost at hl
  omega

set_option maxRecDepth 100000 in
theorem long (p : ByteArray) (hp : 1048576 < p.size) (hpm : p.size ≤ 9223372036854775807) (ao : Option Addr) (n cap : Nat) (w : World) : Calls Try.prog 10 #[.slice ao n cap, .string p] w fun e w' => e = .returned (.bool true) ∧ Kept w w' := by
  have hpd : decide (1048576 < (p.size : Int)) = true := by simp; omega
  have hp2 : (1048576 : Int) < (p.size : Int) := by omega
  go_enter Try.func10, Try.ntmps10
  repeat (first | go_values | go_skip | go_guarded | go_step | go_upon)
  go_ret
  exact ⟨rfl, But.refl _ _ _⟩
theorem all {w : World} (l : List NodeD) (v : Value) (hv : NodeAt w v l) (hq : ∀ p ∈ l, p.1.size ≤ maxLen) (hn : l.length ≤ maxLen) (p : ByteArray) (hpm : p.size ≤ maxLen) (w' : World) (e : w' = w) :
    Calls Try.prog 10 #[v, .string p] w fun e w' => e = .returned (.bool true) ∧ Kept w w' := by
  by_cases hp : p.size ≤ 1048576
  · by_cases hl : nodeCost l ≤ 1048576
    · have hlen : l.length ≤ 1048576 := by unfold nodeCost at hl; omega
      exact walk l p hp (findA l p) v w hv hn hq hl (fun u lo hi v h => specFindNode l v lo hi p u h hlen (name_le hl)) (fun u lo hi v h => implFindNode l v lo hi p u h hlen (name_le hl))
    · exact big l p hp v w hv hn hq (by omega)
  · obtain ⟨ao, cap, hfm⟩ := row_nil hv
    subst hfm
    exact long p (by omega) hpm _ _ _ w


set_option maxRecDepth 100000 in
theorem lifted (os : Os) (started : os.Started) (H : Type) (enc : TypeId × Value → H) :
    ReturnsInHanded {} Try.checked os 10 .any (Rows.fnExactFindNodeSpec.pre6 enc Try.prog Try.f10 Rows.fnExactFindNodeRow.domain false) (Rows.fnExactFindNodeSpec.post enc Try.prog Try.f10 false true false false) := by
  refine returnsInHanded_of_change (C := Try.checked) own started (by kernel_rfl) Try.func10
    (ChangeSpec.witness6 (enc := enc) (C := Try.checked) false ⟨#[], #[.slice none 0 0, .string ByteArray.empty], []⟩ 8 (by kernel_rfl) (by kernel_rfl) (by kernel_rfl) (by kernel_rfl)) ?_
  intro W base args ds gs before hval0 hW hcnd _
  have hval : ∀ (j : Nat) t v, Try.f10.params[j]? = some t → args[j]? = some v → Value.okWide Try.prog W .any base t v := hval0
  have hW' := hW
  obtain ⟨p, q, hA0, hV, rfl, hfz, hnd⟩ := hW
  have hA : DataW.TrodAll enc Try.prog W 0 (fun _ => true) true Try.f10.params.toList args.toList ds p := hA0
  rw [Try.params10] at hA hval
  obtain ⟨v0, vs0, d0, ds0, p0, q0, hargs, rfl, rfl, h0, r0⟩ := trodAll_cons hA
  obtain ⟨v1, vs1, d1, ds1, p1, q1, rfl, rfl, rfl, h1, r1⟩ := trodAll_cons r0
  obtain ⟨rfl, rfl, rfl⟩ := trodAll_nil r1
  obtain rfl : args = #[v0, v1] := by cases args; simp_all
  obtain ⟨rfl, rfl⟩ := trodVars_none hV
  obtain ⟨l0, hv0, hq0, hl0⟩ := open_nodeS (hval 0 38 v0 rfl rfl) h0
  obtain ⟨a1, rfl, rfl, rfl, w1⟩ := Go.ChangeMaps.open_string Try.underlying9 (hval 1 9 v1 rfl rfl) h1
  clear hA0 hval0
  simp only [List.append_nil] at hW'
  refine (all l0 v0 hv0 hq0 hl0 a1 w1 W rfl).mono fun e W' ⟨he, hg⟩ => ?_
  subst he
  exact ⟨_, rfl, post_of_kept (pa := _) (pv := []) hW' (fun _ _ _ => (trodAll_cons_mk (shut_bool Try.underlying4 _) trodAll_mk0)) (fun sp hsp => (trodAll_cons_mk (kept_trod (by kernel_rfl) (of_decide_eq_true (by kernel_rfl)) h0 hg (fun x hx => hW'.lt x (by simp [hx])) (fun x hx => hsp x (by simp [hx]))) (trodAll_cons_mk (Go.ChangeMaps.shut_string Try.underlying9 w1) trodAll_mk0))) (fun _ _ => rfl) hg⟩

theorem over : Rows.fnExactFindNodeRow.holds Try.pinned (OpenSpec.ofChange Rows.fnExactFindNodeSpec) :=
  OpenClaim.holds_of_wide 10 Try.f10 rfl rfl rfl rfl rfl rfl rfl ⟨rfl, rfl, rfl, rfl, rfl⟩ rfl rfl rfl rfl rfl (by kernel_rfl) Try.func10 (by kernel_rfl)
    (of_decide_eq_true (by kernel_rfl)) (by unfold Func.isWrapper; first | (rw [if_pos (by decide +kernel)]; kernel_rfl) | (rw [if_neg (by decide +kernel)]; exact ⟨rfl, rfl⟩))
    (fun os started H enc _ => lifted os started H enc)

theorem proved : Rows.FnExactFindNodeSaid :=
  over
#print axioms proved
end Go.Proofs.Ytcljppnakmeldaa.fnExactFindNode
