/-
  At every facts and every action the program's MayDo answers what the specification's MayDo answers, and writes into no argument.
-/
import Derived.Test.YtjpceimaggcncaaRows
import Derived.Test.YtjpceimaggcncaaAct
import Derived.Test.YtjpceimaggcncaaTo
import Derived.Test.YtjpceimaggcncaaSize
import Derived.Test.YtjpceimaggcncaaOpen
import Derived.ChangeMaps
namespace Go.Proofs.Ytjpceimaggcncaa.fnExactMayDo
open Go.ChangeShapes Go.WideShapes Go.ChangeAt Go.RowKit
set_option linter.unusedVariables false

theorem own : ownKnob Try.prog.godebug = none := by kernel_rfl

theorem szB (nm : ByteArray) (co ne la ga lo : Int) (left : Int) (w : World) (hl : 0 ≤ left) (hm : left ≤ 1048576) (hs : nm.size ≤ 9223372036854775807) : Calls Try.prog 18 #[.agg #[.string nm, .int .i64 co, .int .i64 ne, .int .i64 la, .int .i64 ga, .int .i64 lo], .int .i64 left] w fun e w' => e = .returned (.int .i64 (if (nm.size : Int) ≤ left then left - nm.size else -1)) ∧ Kept w w' :=
  (szAction nm co ne la ga lo left w hl hm hs).mono fun _ _ ⟨h1, h2⟩ => ⟨h1, h2 ▸ (But.refl _ _ _).alloc _⟩
set_option maxRecDepth 100000 in
set_option maxHeartbeats 4000000 in
theorem walk (f : Int) (nm : ByteArray) (co ne la ga lo : Int) (w : World) (hs : nm.size ≤ 1048576) :
    Calls Try.prog 5 #[.int .i64 f, .agg #[.string nm, .int .i64 co, .int .i64 ne, .int .i64 la, .int .i64 ga, .int .i64 lo]] w fun e w' => e = .returned (.bool true) ∧ Kept w w' := by
  have hd : decide ((1048576 : Int) - (nm.size : Int) < 0) = false := by simp; omega
  obtain ⟨J, hJ⟩ : ∃ j, doB f (nm, co, ne, la, ga, lo) = j := ⟨_, rfl⟩
  have HJ : Hid (doB f (nm, co, ne, la, ga, lo) = J) := hJ
  clear hJ
  have HN : Hid (nm.size ≤ 1048576) := hs
  go_enter Try.func5, Try.ntmps5
  repeat (first | go_values | go_skip | go_guarded | go_step | go_upon)
  go_at_call 18
  refine (szB _ _ _ _ _ _ _ _ (by omega) (by omega) (by omega)).mono ?_
  rw [if_pos (by omega)]
  rintro e w1 ⟨rfl, k1⟩
  have hck1 := Kept.cell_eq k1
  have hfk1 := Kept.frozen_eq k1
  have hzk1 := k1.size
  simp at hzk1
  have nk1 : w.heap.size < w1.heap.size := by omega
  have Kk1 : Kept w w1 := But.trans (by (repeat (first | with_reducible exact But.refl _ _ _ | with_reducible apply But.drewN | with_reducible apply But.drew | with_reducible apply But.alloc))) k1
  clear k1
  dsimp only
  repeat (first | (go_at_call 19; refine (toAction _ _ _ _ _ _ _).mono ?_; rintro e w2 ⟨rfl, k2⟩; have hck2 := Kept.cell_eq k2; have hfk2 := Kept.frozen_eq k2; have hzk2 := k2.size; (try simp at hzk2); have nk2 : w.heap.size < w2.heap.size := (by omega); have Kk2 : Kept w w2 := (But.trans (by (repeat (first | with_reducible exact Kk1 | with_reducible apply But.drewN | with_reducible apply But.drew | with_reducible apply But.alloc))) k2); clear k2; dsimp only) | go_values | go_skip | go_guarded | go_step | go_upon)
  go_at_call 21
  refine (sdo _ _ _ _ _ _ _ _ HN.out).mono ?_
  rw [HJ.out]
  rintro e w3 ⟨rfl, k3⟩
  have hck3 := Kept.cell_eq k3
  have hfk3 := Kept.frozen_eq k3
  have hzk3 := k3.size
  have nk3 : w.heap.size < w3.heap.size := by omega
  have Kk3 : Kept w w3 := But.trans Kk2 k3
  clear k3
  dsimp only
  repeat (first | (go_at_call 19; refine (toAction _ _ _ _ _ _ _).mono ?_; rintro e w4 ⟨rfl, k4⟩; have hck4 := Kept.cell_eq k4; have hfk4 := Kept.frozen_eq k4; have hzk4 := k4.size; (try simp at hzk4); have nk4 : w.heap.size < w4.heap.size := (by omega); have Kk4 : Kept w w4 := (But.trans (by (repeat (first | with_reducible exact Kk3 | with_reducible apply But.drewN | with_reducible apply But.drew | with_reducible apply But.alloc))) k4); clear k4; dsimp only) | go_values | go_skip | go_guarded | go_step | go_upon)
  go_at_call 22
  refine (ido _ _ _ _ _ _ _ _ HN.out).mono ?_
  rw [HJ.out]
  rintro e w5 ⟨rfl, k5⟩
  have Kk5 : Kept w w5 := But.trans Kk4 k5
  dsimp only
  repeat (first | go_values | go_skip | go_guarded | go_step | go_upon)
  go_ret
  exact ⟨rfl, by (repeat (first | with_reducible exact Kk5 | with_reducible apply But.drewN | with_reducible apply But.drew | with_reducible apply But.alloc))⟩

set_option maxRecDepth 100000 in
theorem big (f : Int) (nm : ByteArray) (co ne la ga lo : Int) (w : World) (hs : 1048576 < nm.size) (hm : nm.size ≤ 9223372036854775807) :
    Calls Try.prog 5 #[.int .i64 f, .agg #[.string nm, .int .i64 co, .int .i64 ne, .int .i64 la, .int .i64 ga, .int .i64 lo]] w fun e w' => e = .returned (.bool true) ∧ Kept w w' := by
  go_enter Try.func5, Try.ntmps5
  repeat (first | go_values | go_skip | go_guarded | go_step | go_upon)
  go_at_call 18
  refine (szB _ _ _ _ _ _ _ _ (by omega) (by omega) (by omega)).mono ?_
  rw [if_neg (by omega)]
  rintro e w1 ⟨rfl, k1⟩
  have Kk1 : Kept w w1 := But.trans (by (repeat (first | with_reducible exact But.refl _ _ _ | with_reducible apply But.drewN | with_reducible apply But.drew | with_reducible apply But.alloc))) k1
  dsimp only
  repeat (first | go_values | go_skip | go_guarded | go_step | go_upon)
  go_ret
  exact ⟨rfl, by (repeat (first | with_reducible exact Kk1 | with_reducible apply But.drewN | with_reducible apply But.drew | with_reducible apply But.alloc))⟩

theorem all (f : Int) (a : ActionD) (hm : a.1.size ≤ maxLen) (w : World) : Calls Try.prog 5 #[.int .i64 f, .agg (actionC a).toArray] w fun e w' => e = .returned (.bool true) ∧ Kept w w' := by
  obtain ⟨nm, co, ne, la, ga, lo⟩ := a
  rcases Nat.lt_or_ge 1048576 nm.size with h | h
  · exact big f nm co ne la ga lo w h (by unfold maxLen at hm; simpa using hm)
  · exact walk f nm co ne la ga lo w h


set_option maxRecDepth 100000 in
theorem lifted (os : Os) (started : os.Started) (H : Type) (enc : TypeId × Value → H) :
    ReturnsInHanded {} Try.checked os 5 .any (Rows.fnExactMayDoSpec.pre6 enc Try.prog Try.f5 Rows.fnExactMayDoRow.domain false) (Rows.fnExactMayDoSpec.post enc Try.prog Try.f5 false true false false) := by
  refine returnsInHanded_of_change (C := Try.checked) own started (by kernel_rfl) Try.func5
    (ChangeSpec.witness6 (enc := enc) (C := Try.checked) false ⟨#[], #[.int .i64 0, .agg #[.string ByteArray.empty, .int .i64 0, .int .i64 0, .int .i64 0, .int .i64 0, .int .i64 0]], []⟩ 8 (by kernel_rfl) (by kernel_rfl) (by kernel_rfl) (by kernel_rfl)) ?_
  intro W base args ds gs before hval0 hW hcnd _
  have hval : ∀ (j : Nat) t v, Try.f5.params[j]? = some t → args[j]? = some v → Value.okWide Try.prog W .any base t v := hval0
  have hW' := hW
  obtain ⟨p, q, hA0, hV, rfl, hfz, hnd⟩ := hW
  have hA : DataW.TrodAll enc Try.prog W 0 (fun _ => true) true Try.f5.params.toList args.toList ds p := hA0
  rw [Try.params5] at hA hval
  obtain ⟨v0, vs0, d0, ds0, p0, q0, hargs, rfl, rfl, h0, r0⟩ := trodAll_cons hA
  obtain ⟨v1, vs1, d1, ds1, p1, q1, rfl, rfl, rfl, h1, r1⟩ := trodAll_cons r0
  obtain ⟨rfl, rfl, rfl⟩ := trodAll_nil r1
  obtain rfl : args = #[v0, v1] := by cases args; simp_all
  obtain ⟨rfl, rfl⟩ := trodVars_none hV
  obtain ⟨a0, rfl, rfl, rfl, w0⟩ := open_int Try.underlying3 (hval 0 3 v0 rfl rfl) h0
  obtain ⟨a1, e1, q1'⟩ := open_actionV (hval 1 36 v1 rfl rfl) h1
  subst e1
  clear hA0 hval0
  simp only [List.append_nil] at hW'
  refine (all a0 a1 q1' W).mono fun e W' ⟨he, hg⟩ => ?_
  subst he
  exact ⟨_, rfl, post_of_kept (pa := _) (pv := []) hW' (fun _ _ _ => (trodAll_cons_mk (shut_bool Try.underlying4 _) trodAll_mk0)) (fun sp hsp => (trodAll_cons_mk (shut_int Try.underlying3 w0) (trodAll_cons_mk (kept_trod (by kernel_rfl) (of_decide_eq_true (by kernel_rfl)) h1 hg (fun x hx => hW'.lt x (by simp [hx])) (fun x hx => hsp x (by simp [hx]))) trodAll_mk0))) (fun _ _ => rfl) hg⟩

theorem over : Rows.fnExactMayDoRow.holds Try.pinned (OpenSpec.ofChange Rows.fnExactMayDoSpec) :=
  OpenClaim.holds_of_wide 5 Try.f5 rfl rfl rfl rfl rfl rfl rfl ⟨rfl, rfl, rfl, rfl, rfl⟩ rfl rfl rfl rfl rfl (by kernel_rfl) Try.func5 (by kernel_rfl)
    (of_decide_eq_true (by kernel_rfl)) (by unfold Func.isWrapper; first | (rw [if_pos (by decide +kernel)]; kernel_rfl) | (rw [if_neg (by decide +kernel)]; exact ⟨rfl, rfl⟩))
    (fun os started H enc _ => lifted os started H enc)

theorem proved : Rows.FnExactMayDoSaid :=
  over
#print axioms proved
end Go.Proofs.Ytjpceimaggcncaa.fnExactMayDo
