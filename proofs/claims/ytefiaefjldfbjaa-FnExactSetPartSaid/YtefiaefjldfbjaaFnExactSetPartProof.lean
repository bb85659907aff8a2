/-
  At every world, Id, name and value the program's SetPart answers what the specification's SetPart answers, writes into no argument, and its answer owns its memory.
-/
import Derived.Test.YtefiaefjldfbjaaRows
import Derived.Test.YtefiaefjldfbjaaSet
import Derived.ChangeMaps
namespace Go.Proofs.Ytefiaefjldfbjaa.fnExactSetPart
open Go.ChangeShapes Go.WideShapes Go.ChangeAt Go.RowKit
set_option linter.unusedVariables false

theorem own : ownKnob Try.prog.godebug = none := by kernel_rfl

set_option maxHeartbeats 8000000 in
theorem walk (D D' : WD) (r0 : Int) (id : Int) (nm : ByteArray) (val : Int) (hnl : nm.size ≤ 1048576) (v : Value) (w : World) (hv : WAt w v D) (hl : ecost D.2.2 ≤ 1048576) (hf : Fits D.2.2) (hs' : Small D'.2.2) (hb' : kcnt D'.2.2 ≤ 900000000000)
    (hS : ∀ (u : World) (lo hi : Nat) (v : Value), WO u lo hi v D → Calls Try.prog 32 #[v, .int .i64 id, .string nm, .int .i64 val] u fun e u' => ∃ v', e = .returned (.tuple #[v', .int .i64 r0]) ∧ WO u' u.heap.size u'.heap.size v' D' ∧ Kept u u')
    (hI : ∀ (u : World) (lo hi : Nat) (v : Value), WO u lo hi v D → Calls Try.prog 33 #[v, .int .i64 id, .string nm, .int .i64 val] u fun e u' => ∃ v', e = .returned (.tuple #[v', .int .i64 r0]) ∧ WO u' u.heap.size u'.heap.size v' D' ∧ Kept u u') :
    Calls Try.prog 8 #[v, .int .i64 id, .string nm, .int .i64 val] w fun e w' => e = .returned (.bool true) ∧ Kept w w' := by
  have hs := small_of hl
  have hdn : decide ((1048576 : Int) < (nm.size : Int)) = false := by simp; omega
  have hb := kcnt_of hl
  obtain ⟨ao, n, cap, hfm⟩ := hv.form
  subst hfm
  obtain ⟨q, hq⟩ : ∃ q, 1 + kcnt D.2.2 = q := ⟨_, rfl⟩
  obtain ⟨q', hq'⟩ : ∃ q', 1 + kcnt D'.2.2 = q' := ⟨_, rfl⟩
  have hdq : decide ((q : Int) < 0) = false := by simp
  have hdq' : decide ((q' : Int) < 0) = false := by simp
  have HQ : Hid (1 + kcnt D.2.2 = q) := hq
  have HQ' : Hid (1 + kcnt D'.2.2 = q') := hq'
  clear hq hq'
  have HS : Hid _ := hS
  have HI : Hid _ := hI
  clear hS hI
  go_enter Try.func8, Try.ntmps8
  go_wp2_with fail
  go_at_call 24; refine (szWorld D _ _ _ (hv.kept ((But.refl _ _ _).alloc _)) (by omega) (by omega) hf).mono ?_; rintro e u1 ⟨rfl, k1⟩
  rw [leftOf_yes (by omega)]
  have hdl : decide ((1048576 : Int) - (ecost D.2.2 : Int) < 0) = false := by simp; omega
  have K1 : Kept w u1 := ((But.refl _ _ _).alloc _).trans k1
  have La := (Loc.new w [.int .i64 D.1, .int .i64 D.2.1, .slice ao n cap] 51).kept k1
  have s1 := k1.size
  simp only [World.size_alloc] at s1
  have a0 := La.cell 0 rfl
  have a1 := La.cell 1 rfl
  have a2 := La.cell 2 rfl
  clear k1
  go_wp2_with fail
  go_at_call 26; refine (toWorld D _ _ (hv.kept K1) hl).mono ?_; rintro e u2 ⟨v2, rfl, o2, k2⟩
  have K2 := K1.trans k2
  have La := La.kept k2
  have s2 := k2.size
  clear a0 a1 a2
  obtain ⟨ao2, n2, cap2, hfm⟩ := o2.form
  subst hfm
  go_wp2_with fail
  go_at_call 32; refine (HS.out _ _ _ _ o2).mono ?_; rintro e u3 ⟨v3, rfl, o3, k3⟩
  clear o2
  have K3 := K2.trans k3
  have La := La.kept k3
  have s3 := k3.size
  obtain ⟨ao3, n3, cap3, hfm⟩ := o3.form
  subst hfm
  have a0 := La.cell 0 rfl
  have a1 := La.cell 1 rfl
  have a2 := La.cell 2 rfl
  have hlt3 := La.lt
  go_wp2_with fail
  go_at_call 26; refine (toWorld D _ _ (hv.kept (K3.alloc _)) hl).mono ?_; rintro e u4 ⟨v4, rfl, o4, k4⟩
  have K4 := (K3.alloc _).trans k4
  have La := (La.alloc _).kept k4
  have Lw := (Loc.new u3 [.int .i64 D'.1, .int .i64 D'.2.1, .slice ao3 n3 cap3] 25).kept k4
  have o3 := (o3.kept ((But.refl _ _ u3).alloc _)).kept k4
  have s4 := k4.size
  simp only [World.size_alloc] at s4 o4
  clear a0 a1 a2 hlt3
  obtain ⟨ao4, n4, cap4, hfm⟩ := o4.form
  subst hfm
  go_wp2_with fail
  go_at_call 33; refine (HI.out _ _ _ _ (o4.kept ((But.refl _ _ u4).alloc _))).mono ?_; rintro e u5 ⟨v5, rfl, o5, k5⟩
  have j5 : Kept u4 u5 := ((But.refl _ _ u4).alloc _).trans k5
  have K5 := K4.trans j5
  have La := La.kept j5
  have Lw := Lw.kept j5
  have Lx := (Loc.new u4 [.int .i64 D.1, .int .i64 D.2.1, .slice ao4 n4 cap4] 25).kept k5
  have o3 := o3.kept j5
  have o4 := o4.kept j5
  have s5 := k5.size
  simp only [World.size_alloc] at s5 o5
  obtain ⟨ao5, n5, cap5, hfm⟩ := o5.form
  subst hfm
  have b0 := Lw.cell 0 rfl
  have b1 := Lw.cell 1 rfl
  have b2 := Lw.cell 2 rfl
  have hlt5 := Lw.lt
  go_wp2_with fail
  go_at_call 21; refine (eqWorld D' _ _ _ (o5.at.kept ((But.refl _ _ u5).alloc _)) (o3.at.kept ((But.refl _ _ u5).alloc _)) hs').mono ?_; rintro e u6 ⟨rfl, k6⟩
  have j6 : Kept u5 u6 := ((But.refl _ _ u5).alloc _).trans k6
  have K6 := K5.trans j6
  have La := La.kept j6
  have Lw := Lw.kept j6
  have Lx := Lx.kept j6
  have Lg := (Loc.new u5 [.int .i64 D'.1, .int .i64 D'.2.1, .slice ao5 n5 cap5] 25).kept k6
  have o3 := o3.kept j6
  have o4 := o4.kept j6
  have o5 := o5.kept j6
  have s6 := k6.size
  simp only [World.size_alloc] at s6
  clear b0 b1 b2 k2 k3 k4 k5 k6 j5 j6 K1 K2 K3 K4 K5 hlt5
  have a0 := La.cell 0 rfl
  have a1 := La.cell 1 rfl
  have a2 := La.cell 2 rfl
  have c0 := Lx.cell 0 rfl
  have c1 := Lx.cell 1 rfl
  have c2 := Lx.cell 2 rfl
  go_wp2_with fail
  go_region_held3 (fun w' => w'.cell? ⟨w.heap.size, 0, none⟩ = some (.int .i64 D.1) ∧ w'.cell? ⟨w.heap.size, 1, none⟩ = some (.int .i64 D.2.1) ∧ w'.cell? ⟨w.heap.size, 2, none⟩ = some (.slice ao n cap) ∧ w'.cell? ⟨u4.heap.size, 0, none⟩ = some (.int .i64 D.1) ∧ w'.cell? ⟨u4.heap.size, 1, none⟩ = some (.int .i64 D.2.1) ∧ w'.cell? ⟨u4.heap.size, 2, none⟩ = some (.slice ao4 n4 cap4)) (simp [go_sem, *])
    (first | (go_at_call 26; refine (toWorld D _ _ (hv.kept K6.drew) hl).mono ?_; rintro e u7 ⟨v7, rfl, o7, k7⟩; have j7 : Kept u6 u7 := ((But.refl _ _ u6).drew).trans k7; obtain ⟨ao7, n7, cap7, hfm⟩ := o7.form; subst hfm; have a0 := Kept.cell k7 a0; have a1 := Kept.cell k7 a1; have a2 := Kept.cell k7 a2; have c0 := Kept.cell k7 c0; have c1 := Kept.cell k7 c1; have c2 := Kept.cell k7 c2)
           | (go_at_call 21; refine (eqWorld D _ _ _ (o4.at.kept j7) o7.at hs).mono ?_; rintro e u8 ⟨rfl, k8⟩; have a0 := Kept.cell k8 a0; have a1 := Kept.cell k8 a1; have a2 := Kept.cell k8 a2; have c0 := Kept.cell k8 c0; have c1 := Kept.cell k8 c1; have c2 := Kept.cell k8 c2))
  all_goals
    have j8 : Kept u6 u8 := j7.trans k8
    have K8 := K6.trans j8
    have La := La.kept j8
    have Lw := Lw.kept j8
    have Lx := Lx.kept j8
    have Lg := Lg.kept j8
    have o3 := o3.kept j8
    have o4 := o4.kept j8
    have o5 := o5.kept j8
    have s8 := j8.size
    clear j7 j8 k7 k8 o7 a0 a1 a2 K6
    go_wp2_with fail
    go_at_call 22; refine (markWorld D _ 1 (u3.heap.size + 1) u4.heap.size _ o4 (by omega)).mono ?_; rintro e u9 ⟨rfl, -, k9⟩
    rw [HQ.out]
    have K9 := K8.onto k9 (by omega)
    have La := La.but k9 (by omega)
    have Lw := Lw.but k9 (by omega)
    have Lx := Lx.but k9 (by omega)
    have Lg := Lg.but k9 (by omega)
    have o3 := o3.but k9 (by omega)
    have o5 := o5.but k9 (by omega)
    have s9 := k9.size
    clear k9 K8 o4 c0 c1 c2
    have b0 := Lw.cell 0 rfl
    have b1 := Lw.cell 1 rfl
    have b2 := Lw.cell 2 rfl
    have c0 := Lg.cell 0 rfl
    have c1 := Lg.cell 1 rfl
    have c2 := Lg.cell 2 rfl
    go_wp2_with fail
    go_at_call 21; refine (eqWorld D' _ _ _ o5.at o3.at hs').mono ?_; rintro e u10 ⟨rfl, k10⟩
    have K10 := K9.trans k10
    have La := La.kept k10
    have Lw := Lw.kept k10
    have Lg := Lg.kept k10
    have o3 := o3.kept k10
    have o5 := o5.kept k10
    have s10 := k10.size
    clear k10 K9 b0 b1 b2 c0 c1 c2 Lx
    have c0 := Lg.cell 0 rfl
    have c1 := Lg.cell 1 rfl
    have c2 := Lg.cell 2 rfl
    go_wp2_with fail
    go_at_call 22; refine (markWorld D' _ 1 (u4.heap.size + 1) u5.heap.size _ o5 (by omega)).mono ?_; rintro e u11 ⟨rfl, o11, k11⟩
    rw [HQ'.out]
    have K11 := K10.onto k11 (by omega)
    have La := La.but k11 (by omega)
    have Lw := Lw.but k11 (by omega)
    have Lg := Lg.but k11 (by omega)
    have o3 := o3.but k11 (by omega)
    have s11 := k11.size
    clear k11 K10 o5 c0 c1 c2
    have c0 := Lg.cell 0 rfl
    have c1 := Lg.cell 1 rfl
    have c2 := Lg.cell 2 rfl
    go_wp2_with fail
    go_at_call 23; refine (heldWorld D' _ 1 _ o11.at (by omega)).mono ?_; rintro e u12 ⟨rfl, k12⟩
    rw [HQ'.out]
    have K12 := K11.trans k12
    have La := La.kept k12
    have Lw := Lw.kept k12
    have Lg := Lg.kept k12
    have o3 := o3.kept k12
    have o11 := o11.kept k12
    have s12 := k12.size
    clear k12 K11 c0 c1 c2
    have a0 := La.cell 0 rfl
    have a1 := La.cell 1 rfl
    have a2 := La.cell 2 rfl
    go_wp2_with fail
    go_at_call 26; refine (toWorld D _ _ (hv.kept K12) hl).mono ?_; rintro e u13 ⟨v13, rfl, o13, k13⟩
    have K13 := K12.trans k13
    have Lw := Lw.kept k13
    have Lg := Lg.kept k13
    have o3 := o3.kept k13
    have o11 := o11.kept k13
    have s13 := k13.size
    clear k13 K12 a0 a1 a2 La
    obtain ⟨ao13, n13, cap13, hfm⟩ := o13.form
    subst hfm
    go_wp2_with fail
    go_at_call 33; refine (HI.out _ _ _ _ o13).mono ?_; rintro e u14 ⟨v14, rfl, o14, k14⟩
    have K14 := K13.trans k14
    have Lw := Lw.kept k14
    have Lg := Lg.kept k14
    have o3 := o3.kept k14
    have o11 := o11.kept k14
    have s14 := k14.size
    clear k14 K13 o13
    obtain ⟨ao14, n14, cap14, hfm⟩ := o14.form
    subst hfm
    have b0 := Lw.cell 0 rfl
    have b1 := Lw.cell 1 rfl
    have b2 := Lw.cell 2 rfl
    have hlt := Lw.lt
    go_wp2_with fail
    go_at_call 21; refine (eqWorld D' _ _ _ (o14.at.kept ((But.refl _ _ u14).alloc _)) (o3.at.kept ((But.refl _ _ u14).alloc _)) hs').mono ?_; rintro e u15 ⟨rfl, k15⟩
    have j15 : Kept u14 u15 := ((But.refl _ _ u14).alloc _).trans k15
    have K15 := K14.trans j15
    have Lg := Lg.kept j15
    have o11 := o11.kept j15
    clear k15 j15 K14 o14 b0 b1 b2 hlt
    have c0 := Lg.cell 0 rfl
    have c1 := Lg.cell 1 rfl
    have c2 := Lg.cell 2 rfl
    go_wp2_with fail
    go_at_call 23; refine (heldWorld D' _ 1 _ o11.at (by omega)).mono ?_; rintro e u16 ⟨rfl, k16⟩
    rw [HQ'.out]
    have K16 := K15.trans k16
    clear k16 K15 o11 c0 c1 c2
    go_wp2
    go_ret
    exact ⟨rfl, K16⟩

set_option maxHeartbeats 1000000 in
theorem big (D : WD) (v : Value) (id : Int) (nm : ByteArray) (val : Int) (hnl : nm.size ≤ 1048576) (w : World) (hv : WAt w v D) (hf : Fits D.2.2) (hl : 1048576 < ecost D.2.2) :
    Calls Try.prog 8 #[v, .int .i64 id, .string nm, .int .i64 val] w fun e w' => e = .returned (.bool true) ∧ Kept w w' := by
  obtain ⟨ao, n, cap, hfm⟩ := hv.form
  subst hfm
  have hdn : decide ((1048576 : Int) < (nm.size : Int)) = false := by simp; omega
  go_enter Try.func8, Try.ntmps8
  go_wp2_with (go_at_call 24; refine (szWorld D _ _ _ (hv.kept ((But.refl _ _ _).alloc _)) (by omega) (by omega) hf).mono ?_; rintro e u1 ⟨rfl, k1⟩; rw [leftOf_no (by omega)])
  go_ret
  exact ⟨rfl, ((But.refl _ _ _).alloc _).trans k1⟩

theorem long (D : WD) (v : Value) (id : Int) (nm : ByteArray) (val : Int) (w : World) (hv : WAt w v D) (hm : nm.size ≤ maxLen) (hl : 1048576 < nm.size) :
    Calls Try.prog 8 #[v, .int .i64 id, .string nm, .int .i64 val] w fun e w' => e = .returned (.bool true) ∧ Kept w w' := by
  obtain ⟨ao, n, cap, hfm⟩ := hv.form
  subst hfm
  have hm' : nm.size ≤ 9223372036854775807 := hm
  go_enter Try.func8, Try.ntmps8
  go_wp2
  go_ret
  exact ⟨rfl, (But.refl _ _ _).alloc _⟩

theorem all {w : World} (D : WD) (v : Value) (hv : WAt w v D) (hf : Fits D.2.2) (id : Int) (nm : ByteArray) (hm : nm.size ≤ maxLen) (val : Int) (w' : World) (e : w' = w) :
    Calls Try.prog 8 #[v, .int .i64 id, .string nm, .int .i64 val] w fun e w' => e = .returned (.bool true) ∧ Kept w w' := by
  by_cases hnl : nm.size ≤ 1048576
  · by_cases hl : ecost D.2.2 ≤ 1048576
    · obtain ⟨D', r, hs, hb, h1, h2⟩ := set_both D id nm val hnl hl
      exact walk D D' r id nm val hnl v w hv hl hf hs hb h1 h2
    · exact big D v id nm val hnl w hv hf (by omega)
  · exact long D v id nm val w hv hm (by omega)


set_option maxRecDepth 100000 in
theorem lifted (os : Os) (started : os.Started) (H : Type) (enc : TypeId × Value → H) :
    ReturnsInHanded {} Try.checked os 8 .any (Rows.fnExactSetPartSpec.pre6 enc Try.prog Try.f8 Rows.fnExactSetPartRow.domain false) (Rows.fnExactSetPartSpec.post enc Try.prog Try.f8 false true false false) := by
  refine returnsInHanded_of_change (C := Try.checked) own started (by kernel_rfl) Try.func8
    (ChangeSpec.witness6 (enc := enc) (C := Try.checked) false ⟨#[], #[.agg #[.int .i64 0, .int .i64 0, .slice none 0 0], .int .i64 0, .string ByteArray.empty, .int .i64 0], []⟩ 8 (by kernel_rfl) (by kernel_rfl) (by kernel_rfl) (by kernel_rfl)) ?_
  intro W base args ds gs before hval0 hW hcnd _
  have hval : ∀ (j : Nat) t v, Try.f8.params[j]? = some t → args[j]? = some v → Value.okWide Try.prog W .any base t v := hval0
  have hW' := hW
  obtain ⟨p, q, hA0, hV, rfl, hfz, hnd⟩ := hW
  have hA : DataW.TrodAll enc Try.prog W 0 (fun _ => true) true Try.f8.params.toList args.toList ds p := hA0
  rw [Try.params8] at hA hval
  obtain ⟨v0, vs0, d0, ds0, p0, q0, hargs, rfl, rfl, h0, r0⟩ := trodAll_cons hA
  obtain ⟨v1, vs1, d1, ds1, p1, q1, rfl, rfl, rfl, h1, r1⟩ := trodAll_cons r0
  obtain ⟨v2, vs2, d2, ds2, p2, q2, rfl, rfl, rfl, h2, r2⟩ := trodAll_cons r1
  obtain ⟨v3, vs3, d3, ds3, p3, q3, rfl, rfl, rfl, h3, r3⟩ := trodAll_cons r2
  obtain ⟨rfl, rfl, rfl⟩ := trodAll_nil r3
  obtain rfl : args = #[v0, v1, v2, v3] := by cases args; simp_all
  obtain ⟨rfl, rfl⟩ := trodVars_none hV
  obtain ⟨D0, hD0, hF0⟩ := open_world (hval 0 51 v0 rfl rfl) h0
  obtain ⟨a1, rfl, rfl, rfl, w1⟩ := open_int Try.underlying3 (hval 1 3 v1 rfl rfl) h1
  obtain ⟨a2, rfl, rfl, rfl, w2⟩ := Go.ChangeMaps.open_string Try.underlying9 (hval 2 9 v2 rfl rfl) h2
  obtain ⟨a3, rfl, rfl, rfl, w3⟩ := open_int Try.underlying3 (hval 3 3 v3 rfl rfl) h3
  clear hA0 hval0
  simp only [List.append_nil] at hW'
  refine (all D0 v0 hD0 hF0 a1 a2 w2 a3 W rfl).mono fun e W' ⟨he, hg⟩ => ?_
  subst he
  exact ⟨_, rfl, post_of_kept (pa := _) (pv := []) hW' (fun _ _ _ => (trodAll_cons_mk (shut_bool Try.underlying4 _) trodAll_mk0)) (fun sp hsp => (trodAll_cons_mk (kept_trod (by kernel_rfl) (of_decide_eq_true (by kernel_rfl)) h0 hg (fun x hx => hW'.lt x (by simp [hx])) (fun x hx => hsp x (by simp [hx]))) (trodAll_cons_mk (shut_int Try.underlying3 w1) (trodAll_cons_mk (Go.ChangeMaps.shut_string Try.underlying9 w2) (trodAll_cons_mk (shut_int Try.underlying3 w3) trodAll_mk0))))) (fun _ _ => rfl) hg⟩

theorem over : Rows.fnExactSetPartRow.holds Try.pinned (OpenSpec.ofChange Rows.fnExactSetPartSpec) :=
  OpenClaim.holds_of_wide 8 Try.f8 rfl rfl rfl rfl rfl rfl rfl ⟨rfl, rfl, rfl, rfl, rfl⟩ rfl rfl rfl rfl rfl (by kernel_rfl) Try.func8 (by kernel_rfl)
    (of_decide_eq_true (by kernel_rfl)) (by unfold Func.isWrapper; first | (rw [if_pos (by decide +kernel)]; kernel_rfl) | (rw [if_neg (by decide +kernel)]; exact ⟨rfl, rfl⟩))
    (fun os started H enc _ => lifted os started H enc)

theorem proved : Rows.FnExactSetPartSaid :=
  over
#print axioms proved
end Go.Proofs.Ytefiaefjldfbjaa.fnExactSetPart
