/-
  At all bits, places and widths the program's TakeBits answers what the specification's TakeBits answers, and writes into no argument.
-/
import Derived.Test.YtaadlhcpgjibeaaRows
import Derived.Test.YtaadlhcpgjibeaaSTakeB23
import Derived.Test.YtaadlhcpgjibeaaITake23
import Derived.Test.YtaadlhcpgjibeaaBitsF
import Derived.Test.YtaadlhcpgjibeaaBitsO
import Derived.ChangeMaps
namespace Go.Proofs.Ytaadlhcpgjibeaa.fnExactTakeBits
open Go.ChangeShapes Go.WideShapes Go.ChangeAt Go.RowKit
set_option linter.unusedVariables false

theorem own : ownKnob Try.prog.godebug = none := by kernel_rfl

set_option maxRecDepth 100000 in
set_option maxHeartbeats 8000000 in
theorem walk (c : BitsD) (a m : Int) (v : Value) (w : World) (hv : BitsAt w v c) (hz : -9223372036854775808 ≤ c.1 ∧ c.1 ≤ 9223372036854775807) (hl : c.2.length ≤ 1048576) :
    Calls Try.prog 5 #[v, .int .i64 a, .int .i64 m] w fun e w' => e = .returned (.bool true) ∧ Kept w w' := by
  obtain ⟨M, hM⟩ : ∃ m', (takeA c a m).2 = m' := ⟨_, rfl⟩
  have HM : Hid ((takeA c a m).2 = M) := hM
  clear hM
  obtain ⟨J, hJ⟩ : ∃ j, (takeA c a m).1 = j := ⟨_, rfl⟩
  have HJ : Hid ((takeA c a m).1 = J) := hJ
  clear hJ
  have hdl : decide ((1048576 : Int) - (c.2.length : Int) < 0) = false := by simp; omega
  obtain ⟨ao, cap, hfm⟩ := hv.form
  subst hfm
  go_enter Try.func5, Try.ntmps5
  repeat (first | go_values | go_skip | go_guarded | go_step | go_upon)
  go_at_call 6
  refine (szBits c _ _ _ (hv.kept ((But.refl _ _ _).alloc _)) (by omega) (by omega) (by omega)).mono ?_
  rintro e u1 ⟨rfl, k1⟩
  rw [leftOf_yes (by omega)]
  have K1 : Kept w u1 := ((But.refl _ _ _).alloc _).trans k1
  have La := (Loc.new w [.int .i64 c.1, .slice ao c.2.length cap] 24).kept k1
  have a0 := La.cell 0 rfl
  have a1 := La.cell 1 rfl
  have al := La.lt
  dsimp only
  repeat (first | go_values | go_skip | go_guarded | go_step | go_upon)
  go_at_call 8
  refine (toBits c _ _ (hv.kept K1) hl).mono ?_
  rintro e u2 ⟨v2, rfl, o2, k2⟩
  have K2 := K1.trans k2
  have La := La.kept k2
  clear a0 a1 al
  obtain ⟨ao2, cap2, hfm⟩ := o2.form
  subst hfm
  dsimp only
  repeat (first | go_values | go_skip | go_guarded | go_step | go_upon)
  go_at_call 15
  refine (stakeB c _ _ _ _ o2.at (by omega) hz).mono ?_
  rintro e u3 ⟨rfl, k3⟩
  rw [HJ.out, HM.out]
  have K3 := K2.trans k3
  have La := La.kept k3
  clear o2
  have a0 := La.cell 0 rfl
  have a1 := La.cell 1 rfl
  have al := La.lt
  dsimp only
  repeat (first | go_values | go_skip | go_guarded | go_step | go_upon)
  go_at_call 8
  refine (toBits c _ _ (hv.kept K3) hl).mono ?_
  rintro e u4 ⟨v4, rfl, ox, k4⟩
  have K4 := K3.trans k4
  have La := La.kept k4
  clear a0 a1 al
  obtain ⟨ao4, cap4, hfm⟩ := ox.form
  subst hfm
  dsimp only
  repeat (first | go_values | go_skip | go_guarded | go_step | go_upon)
  go_at_call 16
  refine (itakeB c _ _ _ _ (ox.at.kept ((But.refl _ _ u4).alloc _)) (by omega) hz).mono ?_
  rintro e u5 ⟨rfl, k5⟩
  rw [HJ.out, HM.out]
  have j5 : Kept u4 u5 := ((But.refl _ _ u4).alloc _).trans k5
  have K5 := K4.trans j5
  have La := La.kept j5
  have Lx := (Loc.new u4 [.int .i64 c.1, .slice ao4 c.2.length cap4] 27).kept k5
  have ox := ox.kept j5
  have s5 := k5.size
  have a0 := La.cell 0 rfl
  have a1 := La.cell 1 rfl
  have al := La.lt
  have b0 := Lx.cell 0 rfl
  have b1 := Lx.cell 1 rfl
  have bl := Lx.lt
  clear k1 k2 k3 k4 k5 K1 K2 K3 K4 j5
  dsimp only
  repeat (first | go_values | go_skip | go_guarded | go_step | go_upon)
  go_region_held3 (fun w' => w'.cell? ⟨w.heap.size, 0, none⟩ = some (.int .i64 c.1) ∧ w'.cell? ⟨w.heap.size, 1, none⟩ = some (.slice ao c.2.length cap) ∧ w'.cell? ⟨u4.heap.size, 0, none⟩ = some (.int .i64 c.1) ∧ w'.cell? ⟨u4.heap.size, 1, none⟩ = some (.slice ao4 c.2.length cap4)) (simp [go_sem, *])
    (first | (go_at_call 8; refine (toBits c _ _ (hv.kept (But.trans K5 (by (repeat (first | with_reducible exact But.refl _ _ _ | with_reducible apply But.drewN | with_reducible apply But.drew))))) hl).mono ?_; rintro e u7 ⟨v7, rfl, o7, k7⟩; obtain ⟨ao7, cap7, hfm⟩ := o7.form; subst hfm; have o7 := o7.at; have hc7 := k7.cell_eq; have hz7 := k7.size; (try simp at hz7); have n0 : w.heap.size < u7.heap.size := (by omega); have n1 : u4.heap.size < u7.heap.size := (by omega); have j7 : Kept u5 u7 := (But.trans (by (repeat (first | with_reducible exact But.refl _ _ _ | with_reducible apply But.drewN | with_reducible apply But.drew))) k7); have a07 := Kept.cell j7 a0; have a17 := Kept.cell j7 a1; have b07 := Kept.cell j7 b0; have b17 := Kept.cell j7 b1)
           | (go_at_call 10; refine (eqBits c _ _ _ (BitsAt.kept ox.at (j7.trans (by (repeat (first | with_reducible exact But.refl _ _ _ | with_reducible apply But.drewN | with_reducible apply But.drew))))) (BitsAt.kept o7 (by (repeat (first | with_reducible exact But.refl _ _ _ | with_reducible apply But.drewN | with_reducible apply But.drew)))) (by omega)).mono ?_; rintro e u8 ⟨rfl, k8⟩; have hc8 := k8.cell_eq; have hz8 := k8.size; (try simp at hz8); have n3 : w.heap.size < u8.heap.size := (by omega); have n4 : u4.heap.size < u8.heap.size := (by omega); have j8 : Kept u5 u8 := (But.trans (j7.trans (by (repeat (first | with_reducible exact But.refl _ _ _ | with_reducible apply But.drewN | with_reducible apply But.drew)))) k8); have a08 := Kept.cell j8 a0; have a18 := Kept.cell j8 a1; have b08 := Kept.cell j8 b0; have b18 := Kept.cell j8 b1))
  all_goals
    repeat (first | go_values | go_skip | go_guarded | go_step | go_upon)
    go_ret
    exact ⟨rfl, K5.trans j8⟩

set_option maxRecDepth 100000 in
set_option maxHeartbeats 1000000 in
theorem big (c : BitsD) (a m : Int) (v : Value) (w : World) (hv : BitsAt w v c) (hn : c.2.length ≤ 9223372036854775807) (hl : 1048576 < c.2.length) :
    Calls Try.prog 5 #[v, .int .i64 a, .int .i64 m] w fun e w' => e = .returned (.bool true) ∧ Kept w w' := by
  obtain ⟨ao, cap, hfm⟩ := hv.form
  subst hfm
  go_enter Try.func5, Try.ntmps5
  repeat (first | go_values | go_skip | go_guarded | go_step | go_upon)
  go_at_call 6
  refine (szBits c _ _ _ (hv.kept ((But.refl _ _ _).alloc _)) (by omega) (by omega) hn).mono ?_
  rintro e u1 ⟨rfl, k1⟩
  rw [leftOf_no (by omega)]
  dsimp only
  repeat (first | go_values | go_skip | go_guarded | go_step | go_upon)
  go_ret
  exact ⟨rfl, ((But.refl _ _ _).alloc _).trans k1⟩

theorem all (c : BitsD) (v : Value) {w : World} (hv : BitsAt w v c) (hm0 : c.2.length ≤ maxLen ∧ -9223372036854775808 ≤ c.1 ∧ c.1 ≤ 9223372036854775807) (a m : Int) (w' : World) (_ : w' = w) :
    Calls Try.prog 5 #[v, .int .i64 a, .int .i64 m] w fun e w' => e = .returned (.bool true) ∧ Kept w w' := by
  obtain ⟨hm, hz⟩ := hm0
  have hm' : c.2.length ≤ 9223372036854775807 := by unfold maxLen at hm; omega
  by_cases hl : c.2.length ≤ 1048576
  · exact walk c a m v w hv hz hl
  · exact big c a m v w hv hm' (by omega)


set_option maxRecDepth 100000 in
theorem lifted (os : Os) (started : os.Started) (H : Type) (enc : TypeId × Value → H) :
    ReturnsInHanded {} Try.checked os 5 .any (Rows.fnExactTakeBitsSpec.pre6 enc Try.prog Try.f5 Rows.fnExactTakeBitsRow.domain false) (Rows.fnExactTakeBitsSpec.post enc Try.prog Try.f5 false true false false) := by
  refine returnsInHanded_of_change (C := Try.checked) own started (by kernel_rfl) Try.func5
    (ChangeSpec.witness6 (enc := enc) (C := Try.checked) false ⟨#[], #[.agg #[.int .i64 0, .slice none 0 0], .int .i64 0, .int .i64 0], []⟩ 8 (by kernel_rfl) (by kernel_rfl) (by kernel_rfl) (by kernel_rfl)) ?_
  intro W base args ds gs before hval0 hW hcnd _
  have hval : ∀ (j : Nat) t v, Try.f5.params[j]? = some t → args[j]? = some v → Value.okWide Try.prog W .any base t v := hval0
  have hW' := hW
  obtain ⟨p, q, hA0, hV, rfl, hfz, hnd⟩ := hW
  have hA : DataW.TrodAll enc Try.prog W 0 (fun _ => true) true Try.f5.params.toList args.toList ds p := hA0
  rw [Try.params5] at hA hval
  obtain ⟨v0, vs0, d0, ds0, p0, q0, hargs, rfl, rfl, h0, r0⟩ := trodAll_cons hA
  obtain ⟨v1, vs1, d1, ds1, p1, q1, rfl, rfl, rfl, h1, r1⟩ := trodAll_cons r0
  obtain ⟨v2, vs2, d2, ds2, p2, q2, rfl, rfl, rfl, h2, r2⟩ := trodAll_cons r1
  obtain ⟨rfl, rfl, rfl⟩ := trodAll_nil r2
  obtain rfl : args = #[v0, v1, v2] := by cases args; simp_all
  obtain ⟨rfl, rfl⟩ := trodVars_none hV
  obtain ⟨c0, hv0, hl0⟩ := open_bits (hval 0 24 v0 rfl rfl) h0
  obtain ⟨a1, rfl, rfl, rfl, w1⟩ := open_int Try.underlying3 (hval 1 3 v1 rfl rfl) h1
  obtain ⟨a2, rfl, rfl, rfl, w2⟩ := open_int Try.underlying3 (hval 2 3 v2 rfl rfl) h2
  clear hA0 hval0
  simp only [List.append_nil] at hW'
  refine (all c0 v0 hv0 hl0 a1 a2 W rfl).mono fun e W' ⟨he, hg⟩ => ?_
  subst he
  exact ⟨_, rfl, post_of_kept (pa := _) (pv := []) hW' (fun _ _ _ => (trodAll_cons_mk (shut_bool Try.underlying4 _) trodAll_mk0)) (fun sp hsp => (trodAll_cons_mk (kept_trod (by kernel_rfl) (of_decide_eq_true (by kernel_rfl)) h0 hg (fun x hx => hW'.lt x (by simp [hx])) (fun x hx => hsp x (by simp [hx]))) (trodAll_cons_mk (shut_int Try.underlying3 w1) (trodAll_cons_mk (shut_int Try.underlying3 w2) trodAll_mk0)))) (fun _ _ => rfl) hg⟩

theorem over : Rows.fnExactTakeBitsRow.holds Try.pinned (OpenSpec.ofChange Rows.fnExactTakeBitsSpec) :=
  OpenClaim.holds_of_wide 5 Try.f5 rfl rfl rfl rfl rfl rfl rfl ⟨rfl, rfl, rfl, rfl, rfl⟩ rfl rfl rfl rfl rfl (by kernel_rfl) Try.func5 (by kernel_rfl)
    (of_decide_eq_true (by kernel_rfl)) (by unfold Func.isWrapper; first | (rw [if_pos (by decide +kernel)]; kernel_rfl) | (rw [if_neg (by decide +kernel)]; exact ⟨rfl, rfl⟩))
    (fun os started H enc _ => lifted os started H enc)

theorem proved : Rows.FnExactTakeBitsSaid :=
  over
#print axioms proved
end Go.Proofs.Ytaadlhcpgjibeaa.fnExactTakeBits
