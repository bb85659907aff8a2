/-
  At every two shapes the program's Touch answers what the specification's Touch answers, and writes into no argument.
-/
import Derived.Test.YtfibikkbhbmfkaaRows
import Derived.Test.YtfibikkbhbmfkaaImpl9
import Derived.Test.YtfibikkbhbmfkaaTo
import Derived.Test.YtfibikkbhbmfkaaOpen
import Derived.ChangeMaps
namespace Go.Proofs.Ytfibikkbhbmfkaa.fnExactTouch
open Go.ChangeShapes Go.WideShapes Go.ChangeAt Go.RowKit
set_option linter.unusedVariables false

theorem own : ownKnob Try.prog.godebug = none := by kernel_rfl

set_option maxRecDepth 100000 in
set_option maxHeartbeats 4000000 in
theorem walk (k x y a b : Int) (m u v c e : Int) (w : World) : Calls Try.prog 6 #[.agg #[.int .i64 k, .int .i64 x, .int .i64 y, .int .i64 a, .int .i64 b], .agg #[.int .i64 m, .int .i64 u, .int .i64 v, .int .i64 c, .int .i64 e]] w fun e' w' => e' = .returned (.bool true) ∧ Kept w w' := by
  obtain ⟨J, hJ⟩ : ∃ j, decide (TouchA (k, x, y, a, b) (m, u, v, c, e)) = j := ⟨_, rfl⟩
  have HJ : Hid (decide (TouchA (k, x, y, a, b) (m, u, v, c, e)) = J) := hJ
  clear hJ
  go_enter Try.func6, Try.ntmps6
  repeat (first | go_values | go_skip | go_guarded | go_step | go_upon)
  refine wp_region_kept (by kernel_rfl) (by kernel_rfl) ?_
  have hcc := KW.cell_eq ((w.alloc (Obj.cells #[.int .i64 k, .int .i64 x, .int .i64 y, .int .i64 a, .int .i64 b] 23)).alloc (Obj.cells #[.int .i64 m, .int .i64 u, .int .i64 v, .int .i64 c, .int .i64 e] 23))
  repeat (go_big_quiet_step (first | (go_at_call 11; exact kw_call (toShape _ _ _ _ _ _)) | (go_at_call 17; exact kw_call (calls_bool HJ.out (stouch _ _ _ _ _ _ _ _ _ _ _)))))
  refine wpQuiet_nil ?_
  rintro w1 ⟨⟨w8, k9⟩, h9⟩
  change w1 = w8 at h9
  subst h9
  clear hcc
  have hc1 := Kept.cell_eq k9
  have hz1 := k9.size
  (try simp at hz1)
  have n1 : w.heap.size < w1.heap.size := by omega
  have o1 : w.heap.size + 1 < w1.heap.size := by omega
  have Kk1 : Kept w w1 := But.trans (by (repeat (first | with_reducible exact But.refl _ _ _ | with_reducible apply But.drewN | with_reducible apply But.drew | with_reducible apply But.alloc))) k9
  have f1_0 : w1.cell? ⟨w.heap.size, 0, none⟩ = some (.int .i64 k) := by rw [hc1 _ _ (by simp +arith)]; simp [go_sem]
  have f1_1 : w1.cell? ⟨w.heap.size, 1, none⟩ = some (.int .i64 x) := by rw [hc1 _ _ (by simp +arith)]; simp [go_sem]
  have f1_2 : w1.cell? ⟨w.heap.size, 2, none⟩ = some (.int .i64 y) := by rw [hc1 _ _ (by simp +arith)]; simp [go_sem]
  have f1_3 : w1.cell? ⟨w.heap.size, 3, none⟩ = some (.int .i64 a) := by rw [hc1 _ _ (by simp +arith)]; simp [go_sem]
  have f1_4 : w1.cell? ⟨w.heap.size, 4, none⟩ = some (.int .i64 b) := by rw [hc1 _ _ (by simp +arith)]; simp [go_sem]
  have f1_5 : w1.cell? ⟨w.heap.size + 1, 0, none⟩ = some (.int .i64 m) := by rw [hc1 _ _ (by simp +arith)]; simp [go_sem]
  have f1_6 : w1.cell? ⟨w.heap.size + 1, 1, none⟩ = some (.int .i64 u) := by rw [hc1 _ _ (by simp +arith)]; simp [go_sem]
  have f1_7 : w1.cell? ⟨w.heap.size + 1, 2, none⟩ = some (.int .i64 v) := by rw [hc1 _ _ (by simp +arith)]; simp [go_sem]
  have f1_8 : w1.cell? ⟨w.heap.size + 1, 3, none⟩ = some (.int .i64 c) := by rw [hc1 _ _ (by simp +arith)]; simp [go_sem]
  have f1_9 : w1.cell? ⟨w.heap.size + 1, 4, none⟩ = some (.int .i64 e) := by rw [hc1 _ _ (by simp +arith)]; simp [go_sem]
  clear hc1 k9
  repeat (first | go_values | go_skip | go_guarded | go_step | go_upon)
  refine wp_region_kept (by kernel_rfl) (by kernel_rfl) ?_
  have hcc := KW.cell_eq w1
  repeat (go_big_quiet_step (first | (go_at_call 11; exact kw_call (toShape _ _ _ _ _ _)) | (go_at_call 18; exact kw_call (calls_bool HJ.out (itouch _ _ _ _ _ _ _ _ _ _ _)))))
  refine wpQuiet_nil ?_
  rintro w2 ⟨⟨w8, k9⟩, h9⟩
  change w2 = w8 at h9
  subst h9
  clear hcc
  have hc2 := Kept.cell_eq k9
  have hz2 := k9.size
  (try simp at hz2)
  have n2 : w.heap.size < w2.heap.size := by omega
  have o2 : w.heap.size + 1 < w2.heap.size := by omega
  have Kk2 : Kept w w2 := But.trans (by (repeat (first | with_reducible exact Kk1 | with_reducible apply But.drewN | with_reducible apply But.drew | with_reducible apply But.alloc))) k9
  have f2_0 : w2.cell? ⟨w.heap.size, 0, none⟩ = some (.int .i64 k) := by rw [hc2 _ _ (by omega)]; exact f1_0
  have f2_1 : w2.cell? ⟨w.heap.size, 1, none⟩ = some (.int .i64 x) := by rw [hc2 _ _ (by omega)]; exact f1_1
  have f2_2 : w2.cell? ⟨w.heap.size, 2, none⟩ = some (.int .i64 y) := by rw [hc2 _ _ (by omega)]; exact f1_2
  have f2_3 : w2.cell? ⟨w.heap.size, 3, none⟩ = some (.int .i64 a) := by rw [hc2 _ _ (by omega)]; exact f1_3
  have f2_4 : w2.cell? ⟨w.heap.size, 4, none⟩ = some (.int .i64 b) := by rw [hc2 _ _ (by omega)]; exact f1_4
  have f2_5 : w2.cell? ⟨w.heap.size + 1, 0, none⟩ = some (.int .i64 m) := by rw [hc2 _ _ (by omega)]; exact f1_5
  have f2_6 : w2.cell? ⟨w.heap.size + 1, 1, none⟩ = some (.int .i64 u) := by rw [hc2 _ _ (by omega)]; exact f1_6
  have f2_7 : w2.cell? ⟨w.heap.size + 1, 2, none⟩ = some (.int .i64 v) := by rw [hc2 _ _ (by omega)]; exact f1_7
  have f2_8 : w2.cell? ⟨w.heap.size + 1, 3, none⟩ = some (.int .i64 c) := by rw [hc2 _ _ (by omega)]; exact f1_8
  have f2_9 : w2.cell? ⟨w.heap.size + 1, 4, none⟩ = some (.int .i64 e) := by rw [hc2 _ _ (by omega)]; exact f1_9
  clear hc2 k9
  repeat (first | go_values | go_skip | go_guarded | go_step | go_upon)
  go_ret
  exact ⟨rfl, by (repeat (first | with_reducible exact Kk2 | with_reducible apply But.drewN | with_reducible apply But.drew | with_reducible apply But.alloc))⟩

theorem all (p q : ShapeD) (w : World) : Calls Try.prog 6 #[.agg (shapeC p).toArray, .agg (shapeC q).toArray] w fun e w' => e = .returned (.bool true) ∧ Kept w w' := by
  obtain ⟨k, x, y, a, b⟩ := p
  obtain ⟨m, u, v, c, e⟩ := q
  exact walk k x y a b m u v c e w


set_option maxRecDepth 100000 in
theorem lifted (os : Os) (started : os.Started) (H : Type) (enc : TypeId × Value → H) :
    ReturnsInHanded {} Try.checked os 6 .any (Rows.fnExactTouchSpec.pre6 enc Try.prog Try.f6 Rows.fnExactTouchRow.domain false) (Rows.fnExactTouchSpec.post enc Try.prog Try.f6 false true false false) := by
  refine returnsInHanded_of_change (C := Try.checked) own started (by kernel_rfl) Try.func6
    (ChangeSpec.witness6 (enc := enc) (C := Try.checked) false ⟨#[], #[.agg #[.int .i64 0, .int .i64 0, .int .i64 0, .int .i64 0, .int .i64 0], .agg #[.int .i64 0, .int .i64 0, .int .i64 0, .int .i64 0, .int .i64 0]], []⟩ 8 (by kernel_rfl) (by kernel_rfl) (by kernel_rfl) (by kernel_rfl)) ?_
  intro W base args ds gs before hval0 hW hcnd _
  have hval : ∀ (j : Nat) t v, Try.f6.params[j]? = some t → args[j]? = some v → Value.okWide Try.prog W .any base t v := hval0
  have hW' := hW
  obtain ⟨p, q, hA0, hV, rfl, hfz, hnd⟩ := hW
  have hA : DataW.TrodAll enc Try.prog W 0 (fun _ => true) true Try.f6.params.toList args.toList ds p := hA0
  rw [Try.params6] at hA hval
  obtain ⟨v0, vs0, d0, ds0, p0, q0, hargs, rfl, rfl, h0, r0⟩ := trodAll_cons hA
  obtain ⟨v1, vs1, d1, ds1, p1, q1, rfl, rfl, rfl, h1, r1⟩ := trodAll_cons r0
  obtain ⟨rfl, rfl, rfl⟩ := trodAll_nil r1
  obtain rfl : args = #[v0, v1] := by cases args; simp_all
  obtain ⟨rfl, rfl⟩ := trodVars_none hV
  obtain ⟨a0, e0⟩ := open_shapeV (hval 0 23 v0 rfl rfl) h0
  subst e0
  obtain ⟨a1, e1⟩ := open_shapeV (hval 1 23 v1 rfl rfl) h1
  subst e1
  clear hA0 hval0
  simp only [List.append_nil] at hW'
  refine (all a0 a1 W).mono fun e W' ⟨he, hg⟩ => ?_
  subst he
  exact ⟨_, rfl, post_of_kept (pa := _) (pv := []) hW' (fun _ _ _ => (trodAll_cons_mk (shut_bool Try.underlying4 _) trodAll_mk0)) (fun sp hsp => (trodAll_cons_mk (kept_trod (by kernel_rfl) (of_decide_eq_true (by kernel_rfl)) h0 hg (fun x hx => hW'.lt x (by simp [hx])) (fun x hx => hsp x (by simp [hx]))) (trodAll_cons_mk (kept_trod (by kernel_rfl) (of_decide_eq_true (by kernel_rfl)) h1 hg (fun x hx => hW'.lt x (by simp [hx])) (fun x hx => hsp x (by simp [hx]))) trodAll_mk0))) (fun _ _ => rfl) hg⟩

theorem over : Rows.fnExactTouchRow.holds Try.pinned (OpenSpec.ofChange Rows.fnExactTouchSpec) :=
  OpenClaim.holds_of_wide 6 Try.f6 rfl rfl rfl rfl rfl rfl rfl ⟨rfl, rfl, rfl, rfl, rfl⟩ rfl rfl rfl rfl rfl (by kernel_rfl) Try.func6 (by kernel_rfl)
    (of_decide_eq_true (by kernel_rfl)) (by unfold Func.isWrapper; first | (rw [if_pos (by decide +kernel)]; kernel_rfl) | (rw [if_neg (by decide +kernel)]; exact ⟨rfl, rfl⟩))
    (fun os started H enc _ => lifted os started H enc)

theorem proved : Rows.FnExactTouchSaid :=
  over
#print axioms proved
end Go.Proofs.Ytfibikkbhbmfkaa.fnExactTouch
