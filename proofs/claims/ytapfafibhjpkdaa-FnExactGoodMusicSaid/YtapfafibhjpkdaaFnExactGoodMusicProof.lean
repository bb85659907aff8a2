/-
  At all sections and all music the program's GoodMusic answers what the specification's GoodMusic answers, and writes into no argument.
-/
import Derived.Test.YtapfafibhjpkdaaRows
import Derived.Test.YtapfafibhjpkdaaIMus15
import Derived.Test.YtapfafibhjpkdaaSecsO
import Derived.Test.YtapfafibhjpkdaaMusicO
import Derived.Test.YtapfafibhjpkdaaQuiet
import Derived.ChangeMaps
namespace Go.Proofs.Ytapfafibhjpkdaa.fnExactGoodMusic
open Go.ChangeShapes Go.WideShapes Go.ChangeAt Go.RowKit
set_option linter.unusedVariables false

theorem own : ownKnob Try.prog.godebug = none := by kernel_rfl

set_option maxRecDepth 100000 in
set_option maxHeartbeats 16000000 in
theorem walk (l : List SectionD) (v : Value) (m0 : ByteArray) (m1 : Int) (m2 : ByteArray) (w : World) (hv : SecsAt w v l) (hfit : SecsFit l) (hc : secsCost l ≤ 1048576) (hcn : m0.size + m2.size ≤ 1048576 - secsCost l) :
    Calls Try.prog 7 #[v, .agg #[.string m0, .int .i64 m1, .string m2]] w fun e w' => e = .returned (.bool true) ∧ Kept w w' := by
  obtain ⟨J, hJ⟩ : ∃ j, dec (MusicP l (m0, m1, m2)) = j := ⟨_, rfl⟩
  have HJ : Hid (dec (MusicP l (m0, m1, m2)) = J) := hJ
  clear hJ
  obtain ⟨C, hC⟩ : ∃ C : Int, (secsCost l : Int) = C := ⟨_, rfl⟩
  have hM0 : 0 ≤ 1048576 - C ∧ 1048576 - C ≤ 1048576 := by omega
  have hM1 : ((m0.size + m2.size : Nat) : Int) ≤ 1048576 - C := by omega
  have hd1 : decide ((1048576 : Int) - C < 0) = false := by simp; omega
  have hd2 : decide ((1048576 : Int) - C - ((m0.size + m2.size : Nat) : Int) < 0) = false := by simp; omega
  have hz0 : m0.size ≤ 9223372036854775807 := by omega
  have hz2 : m2.size ≤ 9223372036854775807 := by omega
  have hll : l.length ≤ 9223372036854775807 := by unfold secsCost at hc; omega
  obtain ⟨T, hT⟩ : ∃ T : Nat, m0.size + m2.size = T := ⟨_, rfl⟩
  rw [hT] at hM1 hd2
  have HC : Hid ((secsCost l : Int) = C ∧ m0.size + m2.size = T) := ⟨hC, hT⟩
  obtain ⟨ao, cap, hfm⟩ := hv.form
  subst hfm
  clear hC hT hcn
  go_enter Try.func7, Try.ntmps7
  repeat (first | go_values | go_skip | go_guarded | go_step | go_upon)
  go_at_call 29
  refine (szSecs l _ _ _ (hv.kept ((But.refl _ _ _).alloc _)) (by omega) (by omega) hll hfit).mono ?_
  rintro e u1 ⟨rfl, k1⟩
  rw [leftOf_yes (by omega), HC.out.1]
  have K1 : Kept w u1 := ((But.refl _ _ _).alloc _).trans k1
  have La := (Loc.new w [.string m0, .int .i64 m1, .string m2] 53).kept k1
  clear k1
  have a0 := La.cell 0 rfl
  have a1 := La.cell 1 rfl
  have a2 := La.cell 2 rfl
  have al := La.lt
  dsimp only
  repeat (first | go_values | go_skip | go_guarded | go_step | go_upon)
  go_at_call 30
  refine (szMusic m0 m1 m2 _ _ hM0.1 hM0.2 hz0 hz2).mono ?_
  rintro e u2 ⟨rfl, k2⟩
  rw [HC.out.2, leftOf_yes hM1]
  have K2 := K1.trans k2
  have La := La.kept k2
  clear k2 K1
  clear a0 a1 a2 al
  have a0 := La.cell 0 rfl
  have a1 := La.cell 1 rfl
  have a2 := La.cell 2 rfl
  have al := La.lt
  dsimp only
  repeat (first | go_values | go_skip | go_guarded | go_step | go_upon)
  go_region_held3 (fun w' => w'.cell? ⟨w.heap.size, 0, none⟩ = some (.string m0) ∧ w'.cell? ⟨w.heap.size, 1, none⟩ = some (.int .i64 m1) ∧ w'.cell? ⟨w.heap.size, 2, none⟩ = some (.string m2)) (simp [go_sem, *])
    (first | (go_at_call 32; refine (toSecs l _ _ (hv.kept (But.trans K2 (by (repeat (first | with_reducible exact But.refl _ _ _ | with_reducible apply But.drewN | with_reducible apply But.drew | with_reducible apply But.alloc | (with_reducible refine But.setNew ?_ (by simp; try omega) _)))))) hc).mono ?_; rintro e y2 ⟨v2, rfl, o2, k2⟩; obtain ⟨ao2, cap2, hfm⟩ := o2.form; subst hfm; have cp2 := cap_of o2; have o2 := o2.at; have hcy2 := k2.cell_eq; have hfy2 := k2.frozen_eq; have hzy2 := k2.size; (try simp at hzy2); have n0y2 : w.heap.size < y2.heap.size := (by omega); have kwy2 : Kept u2 y2 := (But.trans (by (repeat (first | with_reducible exact But.refl _ _ _ | with_reducible apply But.drewN | with_reducible apply But.drew | with_reducible apply But.alloc | (with_reducible refine But.setNew ?_ (by simp; try omega) _)))) k2); have a0y2 := Kept.cell kwy2 a0; have a1y2 := Kept.cell kwy2 a1; have a2y2 := Kept.cell kwy2 a2)
           | (go_at_call 33; refine (toMusic m0 m1 m2 _).mono ?_; rintro e y3 ⟨rfl, k3⟩; have o2 := SecsAt.kept o2 (But.trans (by (repeat (first | with_reducible exact But.refl _ _ _ | with_reducible apply But.drewN | with_reducible apply But.drew | with_reducible apply But.alloc | (with_reducible refine But.setNew ?_ (by simp; try omega) _)))) k3); have hcy3 := k3.cell_eq; have hfy3 := k3.frozen_eq; have hzy3 := k3.size; (try simp at hzy3); have n0y3 : w.heap.size < y3.heap.size := (by omega); have kwy3 : Kept u2 y3 := (But.trans (by (repeat (first | with_reducible exact kwy2 | with_reducible apply But.drewN | with_reducible apply But.drew | with_reducible apply But.alloc | (with_reducible refine But.setNew ?_ (by simp; try omega) _)))) k3); have a0y3 := Kept.cell kwy3 a0; have a1y3 := Kept.cell kwy3 a1; have a2y3 := Kept.cell kwy3 a2)
           | (go_at_call 31; refine (smusic l _ _ m0 m1 m2 _ (SecsAt.kept o2 (by (repeat (first | with_reducible exact But.refl _ _ _ | with_reducible apply But.drewN | with_reducible apply But.drew | with_reducible apply But.alloc | (with_reducible refine But.setNew ?_ (by simp; try omega) _))))) cp2 hc).mono ?_; rintro e y4 ⟨rfl, k4⟩; rw [HJ.out]; have hcy4 := k4.cell_eq; have hfy4 := k4.frozen_eq; have hzy4 := k4.size; (try simp at hzy4); have n0y4 : w.heap.size < y4.heap.size := (by omega); have kwy4 : Kept u2 y4 := (But.trans (by (repeat (first | with_reducible exact kwy3 | with_reducible apply But.drewN | with_reducible apply But.drew | with_reducible apply But.alloc | (with_reducible refine But.setNew ?_ (by simp; try omega) _)))) k4); have a0y4 := Kept.cell kwy4 a0; have a1y4 := Kept.cell kwy4 a1; have a2y4 := Kept.cell kwy4 a2))
  all_goals
    have K4 := K2.trans kwy4
    have La := La.kept kwy4
    clear o2 cp2 hcy2 hcy3 hcy4 hfy2 hfy3 hfy4 hzy2 hzy3 hzy4 n0y2 n0y3 n0y4 a0y2 a0y3 a0y4 a1y2 a1y3 a1y4 a2y2 a2y3 a2y4 kwy2 kwy3 kwy4 k2 k3 k4 K2
    clear a0 a1 a2 al
    repeat (first | go_values | go_skip | go_guarded | go_step | go_upon)
    go_at_call 32
    refine (toSecs l _ _ (hv.kept K4) hc).mono ?_
    rintro e u5 ⟨v5, rfl, ox, k5⟩
    have K5 := K4.trans k5
    have La := La.kept k5
    clear K4 k5
    obtain ⟨ao5, cap5, hfm⟩ := ox.form
    subst hfm
    have cp5 := cap_of ox
    have a0 := La.cell 0 rfl
    have a1 := La.cell 1 rfl
    have a2 := La.cell 2 rfl
    have al := La.lt
    dsimp only
    repeat (first | go_values | go_skip | go_guarded | go_step | go_upon)
    go_at_call 33
    refine (toMusic m0 m1 m2 _).mono ?_
    rintro e u6 ⟨rfl, k6⟩
    have K6 := K5.trans k6
    have ox := ox.kept k6
    clear K5 k6 La
    dsimp only
    repeat (first | go_values | go_skip | go_guarded | go_step | go_upon)
    go_at_call 34
    refine (imusic l _ _ m0 m1 m2 _ ox.at cp5 hc).mono ?_
    rintro e u9 ⟨rfl, k9⟩
    rw [HJ.out]
    have K9 := K6.trans k9
    have ox := ox.kept k9
    clear K6 k9
    dsimp only
    repeat (first | go_values | go_skip | go_guarded | go_step | go_upon)
    go_at_call 32
    refine (toSecs l _ _ (hv.kept K9) hc).mono ?_
    rintro e u12 ⟨v12, rfl, o12, k12⟩
    have K12 := K9.trans k12
    have ox := ox.kept k12
    obtain ⟨ao12, cap12, hfm⟩ := o12.form
    subst hfm
    dsimp only
    repeat (first | go_values | go_skip | go_guarded | go_step | go_upon)
    go_at_call 35
    refine (eqSecs l _ _ _ ox.at o12.at (by omega)).mono ?_
    rintro e u13 ⟨rfl, k13⟩
    dsimp only
    repeat (first | go_values | go_skip | go_guarded | go_step | go_upon)
    go_ret
    exact ⟨rfl, K12.trans k13⟩

set_option maxRecDepth 100000 in
set_option maxHeartbeats 1000000 in
theorem big1 (l : List SectionD) (v : Value) (m0 : ByteArray) (m1 : Int) (m2 : ByteArray) (w : World) (hv : SecsAt w v l) (hfit : SecsFit l) (hll : l.length ≤ 9223372036854775807) (hl : 1048576 < secsCost l) :
    Calls Try.prog 7 #[v, .agg #[.string m0, .int .i64 m1, .string m2]] w fun e w' => e = .returned (.bool true) ∧ Kept w w' := by
  obtain ⟨ao, cap, hfm⟩ := hv.form
  subst hfm
  go_enter Try.func7, Try.ntmps7
  repeat (first | go_values | go_skip | go_guarded | go_step | go_upon)
  go_at_call 29
  refine (szSecs l _ _ _ (hv.kept ((But.refl _ _ _).alloc _)) (by omega) (by omega) hll hfit).mono ?_
  rintro e u1 ⟨rfl, k1⟩
  rw [leftOf_no (by omega)]
  dsimp only
  repeat (first | go_values | go_skip | go_guarded | go_step | go_upon)
  go_ret
  exact ⟨rfl, ((But.refl _ _ _).alloc _).trans k1⟩
set_option maxRecDepth 100000 in
set_option maxHeartbeats 1000000 in
theorem big2 (l : List SectionD) (v : Value) (m0 : ByteArray) (m1 : Int) (m2 : ByteArray) (w : World) (hv : SecsAt w v l) (hfit : SecsFit l) (hc : secsCost l ≤ 1048576) (hz0 : m0.size ≤ 9223372036854775807) (hz2 : m2.size ≤ 9223372036854775807) (hl2 : 1048576 - secsCost l < m0.size + m2.size) :
    Calls Try.prog 7 #[v, .agg #[.string m0, .int .i64 m1, .string m2]] w fun e w' => e = .returned (.bool true) ∧ Kept w w' := by
  obtain ⟨C, hC⟩ : ∃ C : Int, (secsCost l : Int) = C := ⟨_, rfl⟩
  have hM0 : 0 ≤ 1048576 - C ∧ 1048576 - C ≤ 1048576 := by omega
  have hM1 : 1048576 - C < ((m0.size + m2.size : Nat) : Int) := by omega
  have hd1 : decide ((1048576 : Int) - C < 0) = false := by simp; omega
  have hll : l.length ≤ 9223372036854775807 := by unfold secsCost at hc; omega
  have HC : Hid ((secsCost l : Int) = C) := hC
  clear hC hl2
  obtain ⟨ao, cap, hfm⟩ := hv.form
  subst hfm
  go_enter Try.func7, Try.ntmps7
  repeat (first | go_values | go_skip | go_guarded | go_step | go_upon)
  go_at_call 29
  refine (szSecs l _ _ _ (hv.kept ((But.refl _ _ _).alloc _)) (by omega) (by omega) hll hfit).mono ?_
  rintro e u1 ⟨rfl, k1⟩
  rw [leftOf_yes (by omega), HC.out]
  have K1 : Kept w u1 := ((But.refl _ _ _).alloc _).trans k1
  have La := (Loc.new w [.string m0, .int .i64 m1, .string m2] 53).kept k1
  clear k1
  have a0 := La.cell 0 rfl
  have a1 := La.cell 1 rfl
  have a2 := La.cell 2 rfl
  have al := La.lt
  dsimp only
  repeat (first | go_values | go_skip | go_guarded | go_step | go_upon)
  go_at_call 30
  refine (szMusic m0 m1 m2 _ _ hM0.1 hM0.2 hz0 hz2).mono ?_
  rintro e u2 ⟨rfl, k2⟩
  rw [leftOf_no hM1]
  dsimp only
  repeat (first | go_values | go_skip | go_guarded | go_step | go_upon)
  go_ret
  exact ⟨rfl, K1.trans k2⟩

theorem all (l : List SectionD) (v : Value) {w : World} (hv : SecsAt w v l) (hfit : SecsFit l) (hll : l.length ≤ maxLen) (m : MusicD) (hz : m.1.size ≤ maxLen ∧ m.2.2.size ≤ maxLen) (w' : World) (_ : w' = w) :
    Calls Try.prog 7 #[v, .agg (musicC m).toArray] w fun e w' => e = .returned (.bool true) ∧ Kept w w' := by
  unfold maxLen at hz hll
  by_cases hl : secsCost l ≤ 1048576
  · by_cases hl2 : m.1.size + m.2.2.size ≤ 1048576 - secsCost l
    · exact walk l v m.1 m.2.1 m.2.2 w hv hfit hl hl2
    · exact big2 l v m.1 m.2.1 m.2.2 w hv hfit hl (by omega) (by omega) (by omega)
  · exact big1 l v m.1 m.2.1 m.2.2 w hv hfit (by omega) (by omega)


set_option maxRecDepth 100000 in
theorem lifted (os : Os) (started : os.Started) (H : Type) (enc : TypeId × Value → H) :
    ReturnsInHanded {} Try.checked os 7 .any (Rows.fnExactGoodMusicSpec.pre6 enc Try.prog Try.f7 Rows.fnExactGoodMusicRow.domain false) (Rows.fnExactGoodMusicSpec.post enc Try.prog Try.f7 false true false false) := by
  refine returnsInHanded_of_change (C := Try.checked) own started (by kernel_rfl) Try.func7
    (ChangeSpec.witness6 (enc := enc) (C := Try.checked) false ⟨#[], #[.slice none 0 0, .agg #[.string ByteArray.empty, .int .i64 0, .string ByteArray.empty]], []⟩ 8 (by kernel_rfl) (by kernel_rfl) (by kernel_rfl) (by kernel_rfl)) ?_
  intro W base args ds gs before hval0 hW hcnd _
  have hval : ∀ (j : Nat) t v, Try.f7.params[j]? = some t → args[j]? = some v → Value.okWide Try.prog W .any base t v := hval0
  have hW' := hW
  obtain ⟨p, q, hA0, hV, rfl, hfz, hnd⟩ := hW
  have hA : DataW.TrodAll enc Try.prog W 0 (fun _ => true) true Try.f7.params.toList args.toList ds p := hA0
  rw [Try.params7] at hA hval
  obtain ⟨v0, vs0, d0, ds0, p0, q0, hargs, rfl, rfl, h0, r0⟩ := trodAll_cons hA
  obtain ⟨v1, vs1, d1, ds1, p1, q1, rfl, rfl, rfl, h1, r1⟩ := trodAll_cons r0
  obtain ⟨rfl, rfl, rfl⟩ := trodAll_nil r1
  obtain rfl : args = #[v0, v1] := by cases args; simp_all
  obtain ⟨rfl, rfl⟩ := trodVars_none hV
  obtain ⟨l0, hv0, hq0, hl0⟩ := open_secs (hval 0 51 v0 rfl rfl) h0
  obtain ⟨a1, e1, q1'⟩ := open_musicV (hval 1 53 v1 rfl rfl) h1
  subst e1
  clear hA0 hval0
  simp only [List.append_nil] at hW'
  refine (all l0 v0 hv0 hq0 hl0 a1 q1' W rfl).mono fun e W' ⟨he, hg⟩ => ?_
  subst he
  exact ⟨_, rfl, post_of_kept (pa := _) (pv := []) hW' (fun _ _ _ => (trodAll_cons_mk (shut_bool Try.underlying4 _) trodAll_mk0)) (fun sp hsp => (trodAll_cons_mk (kept_trod (by kernel_rfl) (of_decide_eq_true (by kernel_rfl)) h0 hg (fun x hx => hW'.lt x (by simp [hx])) (fun x hx => hsp x (by simp [hx]))) (trodAll_cons_mk (kept_trod (by kernel_rfl) (of_decide_eq_true (by kernel_rfl)) h1 hg (fun x hx => hW'.lt x (by simp [hx])) (fun x hx => hsp x (by simp [hx]))) trodAll_mk0))) (fun _ _ => rfl) hg⟩

theorem over : Rows.fnExactGoodMusicRow.holds Try.pinned (OpenSpec.ofChange Rows.fnExactGoodMusicSpec) :=
  OpenClaim.holds_of_wide 7 Try.f7 rfl rfl rfl rfl rfl rfl rfl ⟨rfl, rfl, rfl, rfl, rfl⟩ rfl rfl rfl rfl rfl (by kernel_rfl) Try.func7 (by kernel_rfl)
    (of_decide_eq_true (by kernel_rfl)) (by unfold Func.isWrapper; first | (rw [if_pos (by decide +kernel)]; kernel_rfl) | (rw [if_neg (by decide +kernel)]; exact ⟨rfl, rfl⟩))
    (fun os started H enc _ => lifted os started H enc)

theorem proved : Rows.FnExactGoodMusicSaid :=
  over
#print axioms proved
end Go.Proofs.Ytapfafibhjpkdaa.fnExactGoodMusic
