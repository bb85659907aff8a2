/-
  At every list of bodies the program's BookOf answers what the specification's BookOf answers, and writes into no argument.
-/
import Derived.Test.YthpjjpgahmkpdaaRows
import Derived.Test.YthpjjpgahmkpdaaBookS10
import Derived.Test.YthpjjpgahmkpdaaBookI10
import Derived.Test.YthpjjpgahmkpdaaQuiet
import Derived.Test.YthpjjpgahmkpdaaTo
import Derived.Test.YthpjjpgahmkpdaaEq
import Derived.Test.YthpjjpgahmkpdaaMarks
import Derived.Test.YthpjjpgahmkpdaaOpen
import Derived.ChangeMaps
namespace Go.Proofs.Ythpjjpgahmkpdaa.fnExactBookOf
open Go.ChangeShapes Go.WideShapes Go.ChangeAt Go.RowKit
set_option linter.unusedVariables false

theorem own : ownKnob Try.prog.godebug = none := by kernel_rfl

set_option maxRecDepth 100000 in
set_option maxHeartbeats 8000000 in
theorem walk (l : List BodyD)  (z0 z1 z2 : Int) (J : Bool) (v : Value) (w : World) (hv : BodyAt w v l) (hn : l.length ≤ 1048576)
    (hS : ∀ (u : World) (v : Value), BodyAt u v l → Calls Try.prog 26 #[v] u fun e u' => e = .returned (.tuple #[.agg #[.int .i64 z0, .int .i64 z1, .int .i64 z2], .bool J]) ∧ Kept u u')
    (hI : ∀ (u : World) (v : Value), BodyAt u v l → Calls Try.prog 15 #[v] u fun e u' => e = .returned (.tuple #[.agg #[.int .i64 z0, .int .i64 z1, .int .i64 z2], .bool J]) ∧ Kept u u') :
    Calls Try.prog 5 #[v] w fun e w' => e = .returned (.bool true) ∧ Kept w w' := by
  have hlen : l.length ≤ 1048576 := hn
  have hdl : decide ((1048576 : Int) - (l.length : Int) < 0) = false := by simp; omega
  obtain ⟨ao, cap, hfm⟩ := row_nil hv
  subst hfm
  have HS : Hid _ := hS
  have HI : Hid _ := hI
  clear hS hI
  go_enter Try.func5, Try.ntmps5
  repeat (first | go_values | go_skip | go_guarded | go_step | go_upon)
  go_at_call 21
  refine (szBodyS l _ _ _ hv (by omega) (by omega) (by omega)).mono ?_
  rintro e u1 ⟨rfl, k1⟩
  rw [leftOf_yes (by omega)]
  dsimp only
  repeat (first | go_values | go_skip | go_guarded | go_step | go_upon)
  go_at_call 23
  refine (toBodyS l _ _ (hv.kept k1) hlen).mono ?_
  rintro e u2 ⟨v2, rfl, o2, k2⟩
  have K2 := k1.trans k2
  obtain ⟨ao2, cap2, hfm⟩ := o2.form
  subst hfm
  dsimp only
  repeat (first | go_values | go_skip | go_guarded | go_step | go_upon)
  go_at_call 26
  refine (HS.out _ _ o2.at).mono ?_
  rintro e u3 ⟨rfl, k3⟩
  have K3 := K2.trans (k3.alloc (Obj.cells #[.int .i64 z0, .int .i64 z1, .int .i64 z2] 29))
  clear o2
  dsimp only
  repeat (first | go_values | go_skip | go_guarded | go_step | go_upon)
  go_at_call 23
  refine (toBodyS l _ _ (hv.kept K3) hlen).mono ?_
  rintro e u4 ⟨v4, rfl, o4, k4⟩
  have K4 := K3.trans k4
  obtain ⟨ao4, cap4, hfm⟩ := o4.form
  subst hfm
  dsimp only
  repeat (first | go_values | go_skip | go_guarded | go_step | go_upon)
  go_at_call 15
  refine (HI.out _ _ o4.at).mono ?_
  rintro e u5 ⟨rfl, k5⟩
  have K5 := K4.trans k5
  have o4 := o4.kept k5
  have e0 : u5.cell? ⟨u3.heap.size, 0, none⟩ = some (.int .i64 z0) := by rw [Kept.cell_eq k5 _ _ (by have := k4.size; simp at this; omega), Kept.cell_eq k4 _ _ (by simp)]; simp [go_sem]
  have e1 : u5.cell? ⟨u3.heap.size, 1, none⟩ = some (.int .i64 z1) := by rw [Kept.cell_eq k5 _ _ (by have := k4.size; simp at this; omega), Kept.cell_eq k4 _ _ (by simp)]; simp [go_sem]
  have e2 : u5.cell? ⟨u3.heap.size, 2, none⟩ = some (.int .i64 z2) := by rw [Kept.cell_eq k5 _ _ (by have := k4.size; simp at this; omega), Kept.cell_eq k4 _ _ (by simp)]; simp [go_sem]
  have hlt3 := World.block_lt_of_cell? _ _ e0
  dsimp only
  repeat (first | go_values | go_skip | go_guarded | go_step | go_upon)
  go_at_call 27
  refine (eqBook _ _ _ _).mono ?_
  rintro e u6 ⟨rfl, k6⟩
  have K6 := (K5.alloc (Obj.cells #[.int .i64 z0, .int .i64 z1, .int .i64 z2] 29)).trans k6
  have o4 := o4.kept (((But.refl _ _ u5).alloc (Obj.cells #[.int .i64 z0, .int .i64 z1, .int .i64 z2] 29)).trans k6)
  dsimp only
  repeat (first | go_values | go_skip | go_guarded | go_step | go_upon)
  go_at_call 23
  refine (toBodyS l _ _ (hv.kept K6) hlen).mono ?_
  rintro e u7 ⟨v7, rfl, o7, k7⟩
  have K7 := K6.trans k7
  have o4 := o4.kept k7
  obtain ⟨ao7, cap7, hfm⟩ := o7.form
  subst hfm
  dsimp only
  repeat (first | go_values | go_skip | go_guarded | go_step | go_upon)
  go_at_call 25
  refine (eqBodyS l _ _ _ o4.at o7.at (by omega)).mono ?_
  rintro e u8 ⟨rfl, k8⟩
  have K8 := K7.trans k8
  dsimp only
  repeat (first | go_values | go_skip | go_guarded | go_step | go_upon)
  go_ret
  exact ⟨rfl, K8⟩

set_option maxRecDepth 100000 in
set_option maxHeartbeats 1000000 in
theorem big (l : List BodyD)  (v : Value) (w : World) (hv : BodyAt w v l) (hn : l.length ≤ 9223372036854775807) (hl : 1048576 < l.length) :
    Calls Try.prog 5 #[v] w fun e w' => e = .returned (.bool true) ∧ Kept w w' := by
  obtain ⟨ao, cap, hfm⟩ := row_nil hv
  subst hfm
  go_enter Try.func5, Try.ntmps5
  repeat (first | go_values | go_skip | go_guarded | go_step | go_upon)
  go_at_call 21
  refine (szBodyS l _ _ _ hv (by omega) (by omega) hn).mono ?_
  rintro e u1 ⟨rfl, k1⟩
  rw [leftOf_no (by omega)]
  dsimp only
  repeat (first | go_values | go_skip | go_guarded | go_step | go_upon)
  go_ret
  exact ⟨rfl, k1⟩

theorem all (l : List BodyD) (v : Value) {w : World} (hv : BodyAt w v l) (_ : ∀ p ∈ l, True) (hm : l.length ≤ maxLen) (w' : World) (_ : w' = w) :
    Calls Try.prog 5 #[v] w fun e w' => e = .returned (.bool true) ∧ Kept w w' := by
  have hm' : l.length ≤ 9223372036854775807 := by unfold maxLen at hm; omega
  by_cases hl : l.length ≤ 1048576
  · exact walk l (bookA l).1.1 (bookA l).1.2.1 (bookA l).1.2.2 (bookA l).2 v w hv hl (fun u v h => sbook l v u h hl) (fun u v h => ibook l v u h hl)
  · exact big l v w hv hm' (by omega)


set_option maxRecDepth 100000 in
theorem lifted (os : Os) (started : os.Started) (H : Type) (enc : TypeId × Value → H) :
    ReturnsInHanded {} Try.checked os 5 .any (Rows.fnExactBookOfSpec.pre6 enc Try.prog Try.f5 Rows.fnExactBookOfRow.domain false) (Rows.fnExactBookOfSpec.post enc Try.prog Try.f5 false true false false) := by
  refine returnsInHanded_of_change (C := Try.checked) own started (by kernel_rfl) Try.func5
    (ChangeSpec.witness6 (enc := enc) (C := Try.checked) false ⟨#[], #[.slice none 0 0], []⟩ 8 (by kernel_rfl) (by kernel_rfl) (by kernel_rfl) (by kernel_rfl)) ?_
  intro W base args ds gs before hval0 hW hcnd _
  have hval : ∀ (j : Nat) t v, Try.f5.params[j]? = some t → args[j]? = some v → Value.okWide Try.prog W .any base t v := hval0
  have hW' := hW
  obtain ⟨p, q, hA0, hV, rfl, hfz, hnd⟩ := hW
  have hA : DataW.TrodAll enc Try.prog W 0 (fun _ => true) true Try.f5.params.toList args.toList ds p := hA0
  rw [Try.params5] at hA hval
  obtain ⟨v0, vs0, d0, ds0, p0, q0, hargs, rfl, rfl, h0, r0⟩ := trodAll_cons hA
  obtain ⟨rfl, rfl, rfl⟩ := trodAll_nil r0
  obtain rfl : args = #[v0] := by cases args; simp_all
  obtain ⟨rfl, rfl⟩ := trodVars_none hV
  obtain ⟨l0, hv0, hq0, hl0⟩ := open_bodyS (hval 0 42 v0 rfl rfl) h0
  clear hA0 hval0
  simp only [List.append_nil] at hW'
  refine (all l0 v0 hv0 hq0 hl0 W rfl).mono fun e W' ⟨he, hg⟩ => ?_
  subst he
  exact ⟨_, rfl, post_of_kept (pa := _) (pv := []) hW' (fun _ _ _ => (trodAll_cons_mk (shut_bool Try.underlying4 _) trodAll_mk0)) (fun sp hsp => (trodAll_cons_mk (kept_trod (by kernel_rfl) (of_decide_eq_true (by kernel_rfl)) h0 hg (fun x hx => hW'.lt x (by simp [hx])) (fun x hx => hsp x (by simp [hx]))) trodAll_mk0)) (fun _ _ => rfl) hg⟩

theorem over : Rows.fnExactBookOfRow.holds Try.pinned (OpenSpec.ofChange Rows.fnExactBookOfSpec) :=
  OpenClaim.holds_of_wide 5 Try.f5 rfl rfl rfl rfl rfl rfl rfl ⟨rfl, rfl, rfl, rfl, rfl⟩ rfl rfl rfl rfl rfl (by kernel_rfl) Try.func5 (by kernel_rfl)
    (of_decide_eq_true (by kernel_rfl)) (by unfold Func.isWrapper; first | (rw [if_pos (by decide +kernel)]; kernel_rfl) | (rw [if_neg (by decide +kernel)]; exact ⟨rfl, rfl⟩))
    (fun os started H enc _ => lifted os started H enc)

theorem proved : Rows.FnExactBookOfSaid :=
  over
#print axioms proved
end Go.Proofs.Ythpjjpgahmkpdaa.fnExactBookOf
