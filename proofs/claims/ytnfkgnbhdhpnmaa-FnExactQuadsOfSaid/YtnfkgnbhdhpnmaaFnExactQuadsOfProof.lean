/-
  At all blocks the program's QuadsOf answers what the specification's QuadsOf answers, and writes into no argument; its answer owns its memory.
-/
import Derived.Test.YtnfkgnbhdhpnmaaRows
import Derived.Test.YtnfkgnbhdhpnmaaIQuads13
import Derived.Test.YtnfkgnbhdhpnmaaSQuads13
import Derived.Test.YtnfkgnbhdhpnmaaQuadM
import Derived.Test.YtnfkgnbhdhpnmaaQuadE
import Derived.Test.YtnfkgnbhdhpnmaaBlocksF
import Derived.Test.YtnfkgnbhdhpnmaaBlocksG
import Derived.Test.YtnfkgnbhdhpnmaaOpenB
import Derived.ChangeMaps
namespace Go.Proofs.Ytnfkgnbhdhpnmaa.fnExactQuadsOf
open Go.ChangeShapes Go.WideShapes Go.ChangeAt Go.RowKit
set_option linter.unusedVariables false

theorem own : ownKnob Try.prog.godebug = none := by kernel_rfl

theorem quadsA_len (a b d : Int) (l : List Int) : (quadsA a b d l).1.length ≤ 100000000 := by
  unfold quadsA
  split
  · next h =>
    have h1 := h.1
    have h2 := h.2.1
    have h3 := h.2.2.1
    have := quadsL_len (A := a.toNat) (B := b.toNat) (D := d.toNat) (by omega) (by omega) (by omega) l 6
    show (quadsL a.toNat b.toNat d.toNat l 6).length ≤ _
    omega
  · simp
set_option maxRecDepth 100000 in
set_option maxHeartbeats 16000000 in
theorem walk (c : BlocksD) (R : List QuadD) (jb : Bool) (v : Value) (w : World) (hv : BlocksAt w v c) (hn : c.2.2.2.length ≤ 9223372036854775807) (hl : c.2.2.2.length ≤ 1048576) (hR : R.length ≤ 100000000)
    (hS : ∀ (u : World) (v : Value), BlocksAt u v c → Calls Try.prog 30 #[v] u fun e u' => ∃ v', e = .returned (.tuple #[v', .bool jb]) ∧ QuadO u' u.heap.size u'.heap.size v' R ∧ Kept u u')
    (hI : ∀ (u : World) (v : Value), BlocksAt u v c → Calls Try.prog 12 #[v] u fun e u' => ∃ v', e = .returned (.tuple #[v', .bool jb]) ∧ QuadO u' u.heap.size u'.heap.size v' R ∧ Kept u u') :
    Calls Try.prog 8 #[v] w fun e w' => e = .returned (.bool true) ∧ Kept w w' := by
  obtain ⟨q, hq1⟩ : ∃ q, 1 + c.2.2.2.length = q := ⟨_, rfl⟩
  obtain ⟨q', hq2⟩ : ∃ q', 1 + 7 * R.length = q' := ⟨_, rfl⟩
  have hdq : decide ((q : Int) < 0) = false := by simp
  have hdq' : decide ((q' : Int) < 0) = false := by simp
  have HQ : Hid (1 + c.2.2.2.length = q) := hq1
  have HQ' : Hid (1 + 7 * R.length = q') := hq2
  clear hq1 hq2
  have hlen : c.2.2.2.length ≤ 1048576 := by omega
  have hdl : decide ((1048576 : Int) - (c.2.2.2.length : Int) < 0) = false := by simp; omega
  obtain ⟨ao, cap, hfm⟩ := hv.form
  subst hfm
  have HS : Hid (∀ (u : World) (v : Value), BlocksAt u v c → Calls Try.prog 30 #[v] u fun e u' => ∃ v', e = .returned (.tuple #[v', .bool jb]) ∧ QuadO u' u.heap.size u'.heap.size v' R ∧ Kept u u') := hS
  have HI : Hid (∀ (u : World) (v : Value), BlocksAt u v c → Calls Try.prog 12 #[v] u fun e u' => ∃ v', e = .returned (.tuple #[v', .bool jb]) ∧ QuadO u' u.heap.size u'.heap.size v' R ∧ Kept u u') := hI
  clear hS hI
  go_enter Try.func8, Try.ntmps8
  repeat (first | go_values | go_skip | go_guarded | go_step | go_upon)
  go_at_call 16
  refine (szBlocks c _ _ _ (hv.kept ((But.refl _ _ _).alloc _)) (by omega) (by omega) hn).mono ?_
  rintro e u1 ⟨rfl, k1⟩
  rw [leftOf_yes (by omega)]
  have K1 : Kept w u1 := ((But.refl _ _ _).alloc _).trans k1
  have La := (Loc.new w [.int .i64 c.1, .int .i64 c.2.1, .int .i64 c.2.2.1, .slice ao c.2.2.2.length cap] 36).kept k1
  have a0 := La.cell 0 rfl
  have a1 := La.cell 1 rfl
  have a2 := La.cell 2 rfl
  have a3 := La.cell 3 rfl
  have al := La.lt
  dsimp only
  repeat (first | go_values | go_skip | go_guarded | go_step | go_upon)
  go_at_call 18
  refine (toBlocks c _ _ (hv.kept K1) hlen).mono ?_
  rintro e u2 ⟨v2, rfl, o2, k2⟩
  have K2 := K1.trans k2
  have La := La.kept k2
  clear a0 a1 a2 a3 al
  obtain ⟨ao2, cap2, hfm⟩ := o2.form
  subst hfm
  dsimp only
  repeat (first | go_values | go_skip | go_guarded | go_step | go_upon)
  go_at_call 30
  refine (HS.out _ _ o2.at).mono ?_
  rintro e u3 ⟨v3, rfl, o3, k3⟩
  have K3 := K2.trans k3
  have La := La.kept k3
  have s3 := k3.size
  have s2 := k2.size
  clear o2
  have a0 := La.cell 0 rfl
  have a1 := La.cell 1 rfl
  have a2 := La.cell 2 rfl
  have a3 := La.cell 3 rfl
  have al := La.lt
  obtain ⟨ao3, cap3, hfm⟩ := o3.form
  subst hfm
  dsimp only
  repeat (first | go_values | go_skip | go_guarded | go_step | go_upon)
  go_at_call 18
  refine (toBlocks c _ _ (hv.kept K3) hlen).mono ?_
  rintro e u5 ⟨v5, rfl, o5, k5⟩
  have K5 := K3.trans k5
  have La := La.kept k5
  have o3 := o3.kept k5
  have s5 := k5.size
  clear a0 a1 a2 a3 al
  obtain ⟨ao5, cap5, hfm⟩ := o5.form
  subst hfm
  dsimp only
  repeat (first | go_values | go_skip | go_guarded | go_step | go_upon)
  go_at_call 12
  refine (HI.out _ _ (o5.at.kept ((But.refl _ _ u5).alloc _))).mono ?_
  rintro e u7 ⟨v7, rfl, o7, k7⟩
  have j7 : Kept u5 u7 := ((But.refl _ _ u5).alloc _).trans k7
  have K7 := K5.trans j7
  have La := La.kept j7
  have Lx := (Loc.new u5 [.int .i64 c.1, .int .i64 c.2.1, .int .i64 c.2.2.1, .slice ao5 c.2.2.2.length cap5] 25).kept k7
  have o3 := o3.kept j7
  have o5 := o5.kept j7
  have s7 := j7.size
  have hx7 := Lx.lt
  have HW : Hid (w.heap.size ≤ u3.heap.size) := K3.size
  have HWL : Hid (w.heap.size < u3.heap.size) := by have h1 := ((Loc.new w [.int .i64 c.1, .int .i64 c.2.1, .int .i64 c.2.2.1, .slice ao c.2.2.2.length cap] 36).kept k1).lt; have h2 := k2.size; have h3 := k3.size; show w.heap.size < u3.heap.size; omega
  clear k1 k2 k3 k5 k7 j7 K1 K2 K3 K5
  simp only [World.size_alloc] at o7
  obtain ⟨ao7, cap7, hfm⟩ := o7.form
  subst hfm
  dsimp only
  repeat (first | go_values | go_skip | go_guarded | go_step | go_upon)
  go_at_call 31
  refine (eqQuadS R _ _ _ o7.at o3.at (by omega)).mono ?_
  rintro e u6 ⟨rfl, k6⟩
  have K6 := K7.trans k6
  have La := La.kept k6
  have Lx := Lx.kept k6
  have o3 := o3.kept k6
  have o5 := o5.kept k6
  have o7 := o7.kept k6
  have s6 := k6.size
  clear k6 K7
  have a0 := La.cell 0 rfl
  have a1 := La.cell 1 rfl
  have a2 := La.cell 2 rfl
  have a3 := La.cell 3 rfl
  have al := La.lt
  have b0 := Lx.cell 0 rfl
  have b1 := Lx.cell 1 rfl
  have b2 := Lx.cell 2 rfl
  have b3 := Lx.cell 3 rfl
  have bl := Lx.lt
  dsimp only
  repeat (first | go_values | go_skip | go_guarded | go_step | go_upon)
  go_region_held3 (fun w' => w'.cell? ⟨w.heap.size, 0, none⟩ = some (.int .i64 c.1) ∧ w'.cell? ⟨w.heap.size, 1, none⟩ = some (.int .i64 c.2.1) ∧ w'.cell? ⟨w.heap.size, 2, none⟩ = some (.int .i64 c.2.2.1) ∧ w'.cell? ⟨w.heap.size, 3, none⟩ = some (.slice ao c.2.2.2.length cap) ∧ w'.cell? ⟨u5.heap.size, 0, none⟩ = some (.int .i64 c.1) ∧ w'.cell? ⟨u5.heap.size, 1, none⟩ = some (.int .i64 c.2.1) ∧ w'.cell? ⟨u5.heap.size, 2, none⟩ = some (.int .i64 c.2.2.1) ∧ w'.cell? ⟨u5.heap.size, 3, none⟩ = some (.slice ao5 c.2.2.2.length cap5)) (simp [go_sem, *])
    (first | (go_at_call 18; refine (toBlocks c _ _ (hv.kept K6.drew) hlen).mono ?_; rintro e u9 ⟨v9, rfl, o9, k9⟩; have j9 : Kept u6 u9 := ((But.refl _ _ u6).drew).trans k9; obtain ⟨ao9, cap9, hfm⟩ := o9.form; subst hfm; have a0 := Kept.cell k9 a0; have a1 := Kept.cell k9 a1; have a2 := Kept.cell k9 a2; have a3 := Kept.cell k9 a3; have b0 := Kept.cell k9 b0; have b1 := Kept.cell k9 b1; have b2 := Kept.cell k9 b2; have b3 := Kept.cell k9 b3)
           | (go_at_call 20; refine (eqBlocks c _ _ _ (o5.at.kept j9) o9.at (by omega)).mono ?_; rintro e u8 ⟨rfl, k8⟩; have a0 := Kept.cell k8 a0; have a1 := Kept.cell k8 a1; have a2 := Kept.cell k8 a2; have a3 := Kept.cell k8 a3; have b0 := Kept.cell k8 b0; have b1 := Kept.cell k8 b1; have b2 := Kept.cell k8 b2; have b3 := Kept.cell k8 b3))
  all_goals
    have j8 : Kept u6 u8 := j9.trans k8
    have K8 := K6.trans j8
    have La := La.kept j8
    have Lx := Lx.kept j8
    have o3 := o3.kept j8
    have o5 := o5.kept j8
    have o7 := o7.kept j8
    have s8 := j8.size
    clear j9 j8 k9 k8 o9 a0 a1 a2 a3 al b0 b1 b2 b3 bl K6
    have b0 := Lx.cell 0 rfl
    have b1 := Lx.cell 1 rfl
    have b2 := Lx.cell 2 rfl
    have b3 := Lx.cell 3 rfl
    have bl := Lx.lt
    repeat (first | go_values | go_skip | go_guarded | go_step | go_upon)
    go_at_call 25
    refine (markBlocks c _ 1 u3.heap.size u5.heap.size _ o5 (by omega)).mono ?_
    rintro e u9 ⟨rfl, -, k9⟩
    rw [HQ.out]
    have hWL := La.lt
    have K9 := K8.onto k9 HW.out
    have La := La.but k9 (Or.inl HWL.out)
    have o3 := o3.but k9 (Or.inl (Nat.le_refl _))
    have o7 := o7.but k9 (Or.inr (by omega))
    have s9 := k9.size
    clear k9 K8 o5 Lx b0 b1 b2 b3 bl
    dsimp only
    repeat (first | go_values | go_skip | go_guarded | go_step | go_upon)
    go_at_call 31
    refine (eqQuadS R _ _ _ o7.at o3.at (by omega)).mono ?_
    rintro e u10 ⟨rfl, k10⟩
    have K10 := K9.trans k10
    have La := La.kept k10
    have o3 := o3.kept k10
    have o7 := o7.kept k10
    have s10 := k10.size
    clear k10 K9
    dsimp only
    repeat (first | go_values | go_skip | go_guarded | go_step | go_upon)
    go_at_call 32
    refine (markQuadS R _ 1 (u5.heap.size + 1) u7.heap.size _ o7 (by omega)).mono ?_
    rintro e u11 ⟨rfl, o11, b11⟩
    rw [HQ'.out]
    have k11 := b11.inner o7
    have K11 := K10.onto k11 (Nat.le_trans HW.out (by omega))
    have La := La.but k11 (Or.inl (Nat.lt_of_lt_of_le HWL.out (by omega)))
    have o3 := o3.but k11 (by omega)
    have s11 := k11.size
    clear k11 b11 K10 o7
    dsimp only
    repeat (first | go_values | go_skip | go_guarded | go_step | go_upon)
    go_at_call 33
    refine (heldQuadS R.length _ 1 _ o11.at (by omega)).mono ?_
    rintro e u12 ⟨rfl, k12⟩
    rw [HQ'.out]
    have K12 := K11.trans k12
    have La := La.kept k12
    have o3 := o3.kept k12
    have o11 := o11.kept k12
    have s12 := k12.size
    clear k12 K11
    have a0 := La.cell 0 rfl
    have a1 := La.cell 1 rfl
    have a2 := La.cell 2 rfl
    have a3 := La.cell 3 rfl
    have al := La.lt
    dsimp only
    repeat (first | go_values | go_skip | go_guarded | go_step | go_upon)
    go_at_call 18
    refine (toBlocks c _ _ (hv.kept K12) hlen).mono ?_
    rintro e u13 ⟨v13, rfl, o13, k13⟩
    have K13 := K12.trans k13
    have o3 := o3.kept k13
    have o11 := o11.kept k13
    clear a0 a1 a2 a3 al
    clear K12 k13 La
    obtain ⟨ao13, cap13, hfm⟩ := o13.form
    subst hfm
    dsimp only
    repeat (first | go_values | go_skip | go_guarded | go_step | go_upon)
    go_at_call 12
    refine (HI.out _ _ o13.at).mono ?_
    rintro e u14 ⟨v14, rfl, o14, k14⟩
    have K14 := K13.trans k14
    have o3 := o3.kept k14
    have o11 := o11.kept k14
    clear K13 k14 o13
    obtain ⟨ao14, cap14, hfm⟩ := o14.form
    subst hfm
    dsimp only
    repeat (first | go_values | go_skip | go_guarded | go_step | go_upon)
    go_at_call 31
    refine (eqQuadS R _ _ _ o14.at o3.at (by omega)).mono ?_
    rintro e u15 ⟨rfl, k15⟩
    have K15 := K14.trans k15
    have o11 := o11.kept k15
    clear k15 K14 o14
    dsimp only
    repeat (first | go_values | go_skip | go_guarded | go_step | go_upon)
    go_at_call 33
    refine (heldQuadS R.length _ 1 _ o11.at (by omega)).mono ?_
    rintro e u16 ⟨rfl, k16⟩
    rw [HQ'.out]
    have K16 := K15.trans k16
    dsimp only
    repeat (first | go_values | go_skip | go_guarded | go_step | go_upon)
    go_ret
    exact ⟨rfl, K16⟩

set_option maxRecDepth 100000 in
set_option maxHeartbeats 1000000 in
theorem big (c : BlocksD) (v : Value) (w : World) (hv : BlocksAt w v c) (hn : c.2.2.2.length ≤ 9223372036854775807) (hl : 1048576 < c.2.2.2.length) :
    Calls Try.prog 8 #[v] w fun e w' => e = .returned (.bool true) ∧ Kept w w' := by
  obtain ⟨ao, cap, hfm⟩ := hv.form
  subst hfm
  go_enter Try.func8, Try.ntmps8
  repeat (first | go_values | go_skip | go_guarded | go_step | go_upon)
  go_at_call 16
  refine (szBlocks c _ _ _ (hv.kept ((But.refl _ _ _).alloc _)) (by omega) (by omega) hn).mono ?_
  rintro e u1 ⟨rfl, k1⟩
  rw [leftOf_no (by omega)]
  dsimp only
  repeat (first | go_values | go_skip | go_guarded | go_step | go_upon)
  go_ret
  exact ⟨rfl, ((But.refl _ _ _).alloc _).trans k1⟩

theorem all (c : BlocksD) (v : Value) {w : World} (hv : BlocksAt w v c) (hm : c.2.2.2.length ≤ maxLen) (w' : World) (_ : w' = w) :
    Calls Try.prog 8 #[v] w fun e w' => e = .returned (.bool true) ∧ Kept w w' := by
  have hm' : c.2.2.2.length ≤ 9223372036854775807 := by unfold maxLen at hm; omega
  by_cases hl : c.2.2.2.length ≤ 1048576
  · exact walk c (quadsA c.1 c.2.1 c.2.2.1 c.2.2.2).1  (quadsA c.1 c.2.1 c.2.2.1 c.2.2.2).2 v w hv hm' hl (quadsA_len _ _ _ _) (fun u v h => by obtain ⟨ao, cap, hf⟩ := h.form; subst hf; exact squads c.1 c.2.1 c.2.2.1 c.2.2.2  ao cap u h.row hl) (fun u v h => by obtain ⟨ao, cap, hf⟩ := h.form; subst hf; exact iquads c.1 c.2.1 c.2.2.1 c.2.2.2  ao cap u h.row hl)
  · exact big c  v w hv hm' (by omega)


set_option maxRecDepth 100000 in
theorem lifted (os : Os) (started : os.Started) (H : Type) (enc : TypeId × Value → H) :
    ReturnsInHanded {} Try.checked os 8 .any (Rows.fnExactQuadsOfSpec.pre6 enc Try.prog Try.f8 Rows.fnExactQuadsOfRow.domain false) (Rows.fnExactQuadsOfSpec.post enc Try.prog Try.f8 false true false false) := by
  refine returnsInHanded_of_change (C := Try.checked) own started (by kernel_rfl) Try.func8
    (ChangeSpec.witness6 (enc := enc) (C := Try.checked) false ⟨#[], #[.agg #[.int .i64 0, .int .i64 0, .int .i64 0, .slice none 0 0]], []⟩ 8 (by kernel_rfl) (by kernel_rfl) (by kernel_rfl) (by kernel_rfl)) ?_
  intro W base args ds gs before hval0 hW hcnd _
  have hval : ∀ (j : Nat) t v, Try.f8.params[j]? = some t → args[j]? = some v → Value.okWide Try.prog W .any base t v := hval0
  have hW' := hW
  obtain ⟨p, q, hA0, hV, rfl, hfz, hnd⟩ := hW
  have hA : DataW.TrodAll enc Try.prog W 0 (fun _ => true) true Try.f8.params.toList args.toList ds p := hA0
  rw [Try.params8] at hA hval
  obtain ⟨v0, vs0, d0, ds0, p0, q0, hargs, rfl, rfl, h0, r0⟩ := trodAll_cons hA
  obtain ⟨rfl, rfl, rfl⟩ := trodAll_nil r0
  obtain rfl : args = #[v0] := by cases args; simp_all
  obtain ⟨rfl, rfl⟩ := trodVars_none hV
  obtain ⟨c0, hv0, hl0⟩ := open_blocks (hval 0 36 v0 rfl rfl) h0
  clear hA0 hval0
  simp only [List.append_nil] at hW'
  refine (all c0 v0 hv0 hl0 W rfl).mono fun e W' ⟨he, hg⟩ => ?_
  subst he
  exact ⟨_, rfl, post_of_kept (pa := _) (pv := []) hW' (fun _ _ _ => (trodAll_cons_mk (shut_bool Try.underlying4 _) trodAll_mk0)) (fun sp hsp => (trodAll_cons_mk (kept_trod (by kernel_rfl) (of_decide_eq_true (by kernel_rfl)) h0 hg (fun x hx => hW'.lt x (by simp [hx])) (fun x hx => hsp x (by simp [hx]))) trodAll_mk0)) (fun _ _ => rfl) hg⟩

theorem over : Rows.fnExactQuadsOfRow.holds Try.pinned (OpenSpec.ofChange Rows.fnExactQuadsOfSpec) :=
  OpenClaim.holds_of_wide 8 Try.f8 rfl rfl rfl rfl rfl rfl rfl ⟨rfl, rfl, rfl, rfl, rfl⟩ rfl rfl rfl rfl rfl (by kernel_rfl) Try.func8 (by kernel_rfl)
    (of_decide_eq_true (by kernel_rfl)) (by unfold Func.isWrapper; first | (rw [if_pos (by decide +kernel)]; kernel_rfl) | (rw [if_neg (by decide +kernel)]; exact ⟨rfl, rfl⟩))
    (fun os started H enc _ => lifted os started H enc)

theorem proved : Rows.FnExactQuadsOfSaid :=
  over
#print axioms proved
end Go.Proofs.Ytnfkgnbhdhpnmaa.fnExactQuadsOf
