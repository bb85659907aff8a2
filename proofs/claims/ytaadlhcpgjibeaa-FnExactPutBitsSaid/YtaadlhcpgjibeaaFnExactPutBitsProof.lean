/-
  At all bits, values and widths the program's PutBits answers what the specification's PutBits answers, writes into no argument and keeps nothing of one; its answer owns its memory.
-/
import Derived.Test.YtaadlhcpgjibeaaRows
import Derived.Test.YtaadlhcpgjibeaaSPutB23
import Derived.Test.YtaadlhcpgjibeaaIPutB23
import Derived.Test.YtaadlhcpgjibeaaBitsF
import Derived.Test.YtaadlhcpgjibeaaBitsG
import Derived.Test.YtaadlhcpgjibeaaBitsO
import Derived.ChangeMaps
namespace Go.Proofs.Ytaadlhcpgjibeaa.fnExactPutBits
open Go.ChangeShapes Go.WideShapes Go.ChangeAt Go.RowKit
set_option linter.unusedVariables false

theorem own : ownKnob Try.prog.godebug = none := by kernel_rfl


theorem wp_cut5 {P : Program} {C : Code} {Q : Exit → Act → World → Prop} {a : Act} {w : World} {A : Nat → Option Addr → Nat → Option Addr → Nat → Act} (F : Nat → Option Addr → Nat → Option Addr → Nat → World → Prop)
    (h : C.wp P (fun x a' w' => x = .normal ∧ ∃ g ao cap ao' cap', a' = A g ao cap ao' cap' ∧ F g ao cap ao' cap' w') a w) (hq : ∀ g ao cap ao' cap' w', F g ao cap ao' cap' w' → Q .normal (A g ao cap ao' cap') w') : C.wp P Q a w :=
  wp_mono h fun e a' w' ⟨he, g, ao, cap, ao', cap', ha, hF⟩ => by subst he; subst ha; exact hq g ao cap ao' cap' w' hF
theorem wp_cut3 {P : Program} {C : Code} {Q : Exit → Act → World → Prop} {a : Act} {w : World} {A : Nat → Option Addr → Nat → Act} (F : Nat → Option Addr → Nat → World → Prop)
    (h : C.wp P (fun x a' w' => x = .normal ∧ ∃ g ao cap, a' = A g ao cap ∧ F g ao cap w') a w) (hq : ∀ g ao cap w', F g ao cap w' → Q .normal (A g ao cap) w') : C.wp P Q a w :=
  wp_mono h fun e a' w' ⟨he, g, ao, cap, ha, hF⟩ => by subst he; subst ha; exact hq g ao cap w' hF
/-- A variable of two cells, read alone. -/
def LocR (w : World) (b : Nat) (x y : Value) : Prop := w.cell? ⟨b, 0, none⟩ = some x ∧ w.cell? ⟨b, 1, none⟩ = some y ∧ b < w.heap.size
theorem LocR.but {w w' : World} {b lo hi : Nat} {x y : Value} (h : LocR w b x y) (k : But lo hi w w') (ho : b < lo ∨ hi ≤ b) : LocR w' b x y := ⟨But.cell k h.1 ho, But.cell k h.2.1 ho, Nat.lt_of_lt_of_le h.2.2 k.size⟩
theorem LocR.kept {w w' : World} {b : Nat} {x y : Value} (h : LocR w b x y) (k : Kept w w') : LocR w' b x y := h.but k (by omega)
set_option maxRecDepth 100000 in
set_option maxHeartbeats 16000000 in
theorem walk (c R : BitsD) (x m : Int) (jb : Bool) (v : Value) (w : World) (hv : BitsAt w v c) (hn : c.2.length ≤ 9223372036854775807) (hl : c.2.length ≤ 1048576) (hR : R.2.length ≤ 100000000)
    (hS : ∀ (u : World) (v : Value), BitsAt u v c → Calls Try.prog 11 #[v, .int .i64 x, .int .i64 m] u fun e u' => ∃ v', e = .returned (.tuple #[v', .bool jb]) ∧ BitsO u' u.heap.size u'.heap.size v' R ∧ Kept u u')
    (hI : ∀ (u : World) (v : Value), BitsAt u v c → Calls Try.prog 12 #[v, .int .i64 x, .int .i64 m] u fun e u' => ∃ v', e = .returned (.tuple #[v', .bool jb]) ∧ BitsO u' u.heap.size u'.heap.size v' R ∧ Kept u u') :
    Calls Try.prog 4 #[v, .int .i64 x, .int .i64 m] w fun e w' => e = .returned (.bool true) ∧ Kept w w' := by
  obtain ⟨q, hq1⟩ : ∃ q, 1 + c.2.length = q := ⟨_, rfl⟩
  obtain ⟨q', hq2⟩ : ∃ q', 1 + R.2.length = q' := ⟨_, rfl⟩
  have hdq : decide ((q : Int) < 0) = false := by simp
  have hdq' : decide ((q' : Int) < 0) = false := by simp
  have HQ : Hid (1 + c.2.length = q) := hq1
  have HQ' : Hid (1 + R.2.length = q') := hq2
  clear hq1 hq2
  have hlen : c.2.length ≤ 1048576 := hl
  have hdl : decide ((1048576 : Int) - (c.2.length : Int) < 0) = false := by simp; omega
  obtain ⟨ao, cap, hfm⟩ := hv.form
  subst hfm
  have HS : Hid (∀ (u : World) (v : Value), BitsAt u v c → Calls Try.prog 11 #[v, .int .i64 x, .int .i64 m] u fun e u' => ∃ v', e = .returned (.tuple #[v', .bool jb]) ∧ BitsO u' u.heap.size u'.heap.size v' R ∧ Kept u u') := hS
  have HI : Hid (∀ (u : World) (v : Value), BitsAt u v c → Calls Try.prog 12 #[v, .int .i64 x, .int .i64 m] u fun e u' => ∃ v', e = .returned (.tuple #[v', .bool jb]) ∧ BitsO u' u.heap.size u'.heap.size v' R ∧ Kept u u') := hI
  clear hS hI
  go_enter Try.func4, Try.ntmps4
  repeat (first | go_values | go_skip | go_guarded | go_step | go_upon)
  go_at_call 6
  refine (szBits c _ _ _ (hv.kept ((But.refl _ _ _).alloc _)) (by omega) (by omega) hn).mono ?_
  rintro e u1 ⟨rfl, k1⟩
  rw [leftOf_yes (by omega)]
  have K1 : Kept w u1 := ((But.refl _ _ _).alloc _).trans k1
  have La := (Loc.new w [.int .i64 c.1, .slice ao c.2.length cap] 24).kept k1
  have a0 := La.cell 0 rfl
  have a1 := La.cell 1 rfl
  have al := La.lt
  dsimp only
  repeat (first | go_values | go_skip | go_guarded | go_step | go_upon)
  go_at_call 8
  refine (toBits c _ _ (hv.kept K1) hlen).mono ?_
  rintro e u2 ⟨v2, rfl, o2, k2⟩
  have K2 := K1.trans k2
  have La := La.kept k2
  clear a0 a1 al
  obtain ⟨ao2, cap2, hfm⟩ := o2.form
  subst hfm
  dsimp only
  repeat (first | go_values | go_skip | go_guarded | go_step | go_upon)
  go_at_call 11
  refine (HS.out _ _ o2.at).mono ?_
  rintro e u3 ⟨v3, rfl, o3, k3⟩
  have K3 := K2.trans k3
  have La := La.kept k3
  have s3 := k3.size
  have s2 := k2.size
  have HW1 : Hid (w.heap.size < u1.heap.size) := by have := La.lt; show w.heap.size < u1.heap.size; exact Loc.lt ((Loc.new w [.int .i64 c.1, .slice ao c.2.length cap] 24).kept k1)
  clear o2
  have a0 := La.cell 0 rfl
  have a1 := La.cell 1 rfl
  have al := La.lt
  obtain ⟨ao3, cap3, hfm⟩ := o3.form
  subst hfm
  dsimp only
  repeat (first | go_values | go_skip | go_guarded | go_step | go_upon)
  go_at_call 8
  refine (toBits c _ _ (hv.kept (K3.alloc _)) hlen).mono ?_
  rintro e u5 ⟨v5, rfl, o5, k5⟩
  have j5 : Kept u3 u5 := ((But.refl _ _ u3).alloc _).trans k5
  have K5 := K3.trans j5
  have La := La.kept j5
  have Lw := (Loc.new u3 [.int .i64 R.1, .slice ao3 R.2.length cap3] 27).kept k5
  have o3 := o3.kept j5
  have s5 := j5.size
  clear a0 a1 al
  obtain ⟨ao5, cap5, hfm⟩ := o5.form
  subst hfm
  simp only [World.size_alloc] at o5
  dsimp only
  repeat (first | go_values | go_skip | go_guarded | go_step | go_upon)
  go_at_call 12
  refine (HI.out _ _ (o5.at.kept ((But.refl _ _ u5).alloc _))).mono ?_
  rintro e u7 ⟨v7, rfl, o7, k7⟩
  have j7 : Kept u5 u7 := ((But.refl _ _ u5).alloc _).trans k7
  have K7 := K5.trans j7
  have La := La.kept j7
  have Lw := Lw.kept j7
  have Lx := (Loc.new u5 [.int .i64 c.1, .slice ao5 c.2.length cap5] 27).kept k7
  have o3 := o3.kept j7
  have o5 := o5.kept j7
  have s7 := j7.size
  have hx7 := Lx.lt
  clear k1 k2 k3 k5 k7 j5 j7 K1 K2 K3 K5
  simp only [World.size_alloc] at o7
  obtain ⟨ao7, cap7, hfm⟩ := o7.form
  subst hfm
  have b0 := Lw.cell 0 rfl
  have b1 := Lw.cell 1 rfl
  have bl := Lw.lt
  dsimp only
  repeat (first | go_values | go_skip | go_guarded | go_step | go_upon)
  go_at_call 10
  refine (eqBits R _ _ _ (o7.at.kept ((But.refl _ _ u7).alloc _)) (o3.at.kept ((But.refl _ _ u7).alloc _)) (by omega)).mono ?_
  rintro e u6 ⟨rfl, k6⟩
  have j6 : Kept u7 u6 := ((But.refl _ _ u7).alloc _).trans k6
  have K6 := K7.trans j6
  have La := La.kept j6
  have Lw := Lw.kept j6
  have Lx := Lx.kept j6
  have Lg := (Loc.new u7 [.int .i64 R.1, .slice ao7 R.2.length cap7] 27).kept k6
  have o3 := o3.kept j6
  have o5 := o5.kept j6
  have o7 := o7.kept j6
  have s6 := j6.size
  have hg6 := Lg.lt
  clear b0 b1 bl
  clear k6 j6 K7
  have a0 := La.cell 0 rfl
  have a1 := La.cell 1 rfl
  have al := La.lt
  have b0 := Lx.cell 0 rfl
  have b1 := Lx.cell 1 rfl
  have bl := Lx.lt
  dsimp only
  repeat (first | go_values | go_skip | go_guarded | go_step | go_upon)
  go_region_held3 (fun w' => w'.cell? ⟨w.heap.size, 0, none⟩ = some (.int .i64 c.1) ∧ w'.cell? ⟨w.heap.size, 1, none⟩ = some (.slice ao c.2.length cap) ∧ w'.cell? ⟨u5.heap.size, 0, none⟩ = some (.int .i64 c.1) ∧ w'.cell? ⟨u5.heap.size, 1, none⟩ = some (.slice ao5 c.2.length cap5)) (simp [go_sem, *])
    (first | (go_at_call 8; refine (toBits c _ _ (hv.kept K6.drew) hlen).mono ?_; rintro e u9 ⟨v9, rfl, o9, k9⟩; have j9 : Kept u6 u9 := ((But.refl _ _ u6).drew).trans k9; obtain ⟨ao9, cap9, hfm⟩ := o9.form; subst hfm; have a0 := Kept.cell k9 a0; have a1 := Kept.cell k9 a1; have b0 := Kept.cell k9 b0; have b1 := Kept.cell k9 b1)
           | (go_at_call 10; refine (eqBits c _ _ _ (o5.at.kept j9) o9.at (by omega)).mono ?_; rintro e u8 ⟨rfl, k8⟩; have a0 := Kept.cell k8 a0; have a1 := Kept.cell k8 a1; have b0 := Kept.cell k8 b0; have b1 := Kept.cell k8 b1))
  all_goals
    have j8 : Kept u6 u8 := j9.trans k8
    have K8 := K6.trans j8
    have La := La.kept j8
    have Lw := Lw.kept j8
    have Lx := Lx.kept j8
    have Lg := Lg.kept j8
    have o3 := o3.kept j8
    have o5 := o5.kept j8
    have o7 := o7.kept j8
    have s8 := j8.size
    have hWL := HW1.out
    clear j9 j8 k9 k8 o9 a0 a1 al b0 b1 bl K6
    have b0 := Lx.cell 0 rfl
    have b1 := Lx.cell 1 rfl
    have bl := Lx.lt
    repeat (first | go_values | go_skip | go_guarded | go_step | go_upon)
    go_at_call 13
    refine (markBits c _ 1 (u3.heap.size + 1) u5.heap.size _ o5 (by omega)).mono ?_
    rintro e u9 ⟨rfl, -, k9⟩
    rw [HQ.out]
    have K9 := K8.onto k9 (by omega)
    have La := La.but k9 (by omega)
    have Lw := Lw.but k9 (by omega)
    have Lg := Lg.but k9 (by omega)
    have o3 := o3.but k9 (by omega)
    have o7 := o7.but k9 (by omega)
    have s9 := k9.size
    clear k9 K8 o5 Lx b0 b1 bl
    have b0 := Lw.cell 0 rfl
    have b1 := Lw.cell 1 rfl
    have bl := Lw.lt
    have g0 := Lg.cell 0 rfl
    have g1 := Lg.cell 1 rfl
    have gl := Lg.lt
    dsimp only
    repeat (first | go_values | go_skip | go_guarded | go_step | go_upon)
    go_at_call 10
    refine (eqBits R _ _ _ o7.at o3.at (by omega)).mono ?_
    rintro e u10 ⟨rfl, k10⟩
    have K10 := K9.trans k10
    have La := La.kept k10
    have Lw := Lw.kept k10
    have Lg := Lg.kept k10
    have o3 := o3.kept k10
    have o7 := o7.kept k10
    have s10 := k10.size
    clear k10 K9
    clear b0 b1 bl g0 g1 gl
    have g0 := Lg.cell 0 rfl
    have g1 := Lg.cell 1 rfl
    have gl := Lg.lt
    dsimp only
    repeat (first | go_values | go_skip | go_guarded | go_step | go_upon)
    go_at_call 13
    refine (markBits R _ 1 (u5.heap.size + 1) u7.heap.size _ o7 (by omega)).mono ?_
    rintro e u11 ⟨rfl, o11, k11⟩
    rw [HQ'.out]
    have K11 := K10.onto k11 (by omega)
    have La := La.but k11 (by omega)
    have Lw := Lw.but k11 (by omega)
    have Lg := Lg.but k11 (by omega)
    have o3 := o3.but k11 (by omega)
    have s11 := k11.size
    clear k11 K10 o7
    clear g0 g1 gl
    have g0 := Lg.cell 0 rfl
    have g1 := Lg.cell 1 rfl
    have gl := Lg.lt
    dsimp only
    repeat (first | go_values | go_skip | go_guarded | go_step | go_upon)
    go_at_call 14
    refine (heldBits R.1 R.2.length _ 1 _ o11.at (by omega)).mono ?_
    rintro e u12 ⟨rfl, k12⟩
    rw [HQ'.out]
    have K12 := K11.trans k12
    have La := La.kept k12
    have Lw := Lw.kept k12
    have Lg := Lg.kept k12
    have o3 := o3.kept k12
    have o11 := o11.kept k12
    have s12 := k12.size
    clear k12 K11
    clear g0 g1 gl
    have a0 := La.cell 0 rfl
    have a1 := La.cell 1 rfl
    have al := La.lt
    dsimp only
    repeat (first | go_values | go_skip | go_guarded | go_step | go_upon)
    go_at_call 8
    refine (toBits c _ _ (hv.kept K12) hlen).mono ?_
    rintro e u13 ⟨v13, rfl, o13, k13⟩
    have K13 := K12.trans k13
    have Lw := Lw.kept k13
    have Lg := Lg.kept k13
    have o3 := o3.kept k13
    have o11 := o11.kept k13
    clear a0 a1 al
    clear K12 k13 La
    obtain ⟨ao13, cap13, hfm⟩ := o13.form
    subst hfm
    dsimp only
    repeat (first | go_values | go_skip | go_guarded | go_step | go_upon)
    go_at_call 12
    refine (HI.out _ _ o13.at).mono ?_
    rintro e u14 ⟨v14, rfl, o14, k14⟩
    have K14 := K13.trans k14
    have Lw := Lw.kept k14
    have Lg := Lg.kept k14
    have o3 := o3.kept k14
    have o11 := o11.kept k14
    clear K13 k14 o13
    obtain ⟨ao14, cap14, hfm⟩ := o14.form
    subst hfm
    have b0 := Lw.cell 0 rfl
    have b1 := Lw.cell 1 rfl
    have bl := Lw.lt
    dsimp only
    repeat (first | go_values | go_skip | go_guarded | go_step | go_upon)
    go_at_call 10
    refine (eqBits R _ _ _ (o14.at.kept ((But.refl _ _ u14).alloc _)) (o3.at.kept ((But.refl _ _ u14).alloc _)) (by omega)).mono ?_
    rintro e u15 ⟨rfl, k15⟩
    have j15 : Kept u14 u15 := ((But.refl _ _ u14).alloc _).trans k15
    have K15 := K14.trans j15
    have Lg := Lg.kept j15
    have o11 := o11.kept j15
    clear k15 K14 o14 j15
    clear b0 b1 bl
    have g0 := Lg.cell 0 rfl
    have g1 := Lg.cell 1 rfl
    have gl := Lg.lt
    dsimp only
    repeat (first | go_values | go_skip | go_guarded | go_step | go_upon)
    go_at_call 14
    refine (heldBits R.1 R.2.length _ 1 _ o11.at (by omega)).mono ?_
    rintro e u16 ⟨rfl, k16⟩
    rw [HQ'.out]
    have K16 := K15.trans k16
    dsimp only
    repeat (first | go_values | go_skip | go_guarded | go_step | go_upon)
    go_ret
    exact ⟨rfl, K16⟩

set_option maxRecDepth 100000 in
set_option maxHeartbeats 1000000 in
theorem big (c : BitsD) (x m : Int) (v : Value) (w : World) (hv : BitsAt w v c) (hn : c.2.length ≤ 9223372036854775807) (hl : 1048576 < c.2.length) :
    Calls Try.prog 4 #[v, .int .i64 x, .int .i64 m] w fun e w' => e = .returned (.bool true) ∧ Kept w w' := by
  obtain ⟨ao, cap, hfm⟩ := hv.form
  subst hfm
  go_enter Try.func4, Try.ntmps4
  repeat (first | go_values | go_skip | go_guarded | go_step | go_upon)
  go_at_call 6
  refine (szBits c _ _ _ (hv.kept ((But.refl _ _ _).alloc _)) (by omega) (by omega) hn).mono ?_
  rintro e u1 ⟨rfl, k1⟩
  rw [leftOf_no (by omega)]
  dsimp only
  repeat (first | go_values | go_skip | go_guarded | go_step | go_upon)
  go_ret
  exact ⟨rfl, ((But.refl _ _ _).alloc _).trans k1⟩

theorem all (c : BitsD) (v : Value) {w : World} (hv : BitsAt w v c) (hm0 : c.2.length ≤ maxLen ∧ -9223372036854775808 ≤ c.1 ∧ c.1 ≤ 9223372036854775807) (x m : Int) (w' : World) (_ : w' = w) :
    Calls Try.prog 4 #[v, .int .i64 x, .int .i64 m] w fun e w' => e = .returned (.bool true) ∧ Kept w w' := by
  obtain ⟨hm, hz⟩ := hm0
  have hm' : c.2.length ≤ 9223372036854775807 := by unfold maxLen at hm; omega
  by_cases hl : c.2.length ≤ 1048576
  · exact walk c (putA c x m).1 x m (putA c x m).2 v w hv hm' hl (Nat.le_trans (putA_len _ _ _ hl) (by omega)) (fun u v h => sputB c x m v u h (by omega) hz) (fun u v h => iputB c x m v u h (by omega) hz)
  · exact big c x m v w hv hm' (by omega)


set_option maxRecDepth 100000 in
theorem lifted (os : Os) (started : os.Started) (H : Type) (enc : TypeId × Value → H) :
    ReturnsInHanded {} Try.checked os 4 .any (Rows.fnExactPutBitsSpec.pre6 enc Try.prog Try.f4 Rows.fnExactPutBitsRow.domain false) (Rows.fnExactPutBitsSpec.post enc Try.prog Try.f4 false true false false) := by
  refine returnsInHanded_of_change (C := Try.checked) own started (by kernel_rfl) Try.func4
    (ChangeSpec.witness6 (enc := enc) (C := Try.checked) false ⟨#[], #[.agg #[.int .i64 0, .slice none 0 0], .int .i64 0, .int .i64 0], []⟩ 8 (by kernel_rfl) (by kernel_rfl) (by kernel_rfl) (by kernel_rfl)) ?_
  intro W base args ds gs before hval0 hW hcnd _
  have hval : ∀ (j : Nat) t v, Try.f4.params[j]? = some t → args[j]? = some v → Value.okWide Try.prog W .any base t v := hval0
  have hW' := hW
  obtain ⟨p, q, hA0, hV, rfl, hfz, hnd⟩ := hW
  have hA : DataW.TrodAll enc Try.prog W 0 (fun _ => true) true Try.f4.params.toList args.toList ds p := hA0
  rw [Try.params4] at hA hval
  obtain ⟨v0, vs0, d0, ds0, p0, q0, hargs, rfl, rfl, h0, r0⟩ := trodAll_cons hA
  obtain ⟨v1, vs1, d1, ds1, p1, q1, rfl, rfl, rfl, h1, r1⟩ := trodAll_cons r0
  obtain ⟨v2, vs2, d2, ds2, p2, q2, rfl, rfl, rfl, h2, r2⟩ := trodAll_cons r1
  obtain ⟨rfl, rfl, rfl⟩ := trodAll_nil r2
  obtain rfl : args = #[v0, v1, v2] := by cases args; simp_all
  obtain ⟨rfl, rfl⟩ := trodVars_none hV
  obtain ⟨c0, hv0, hl0⟩ := open_bits (hval 0 24 v0 rfl rfl) h0
  obtain ⟨a1, rfl, rfl, rfl, w1⟩ := open_int Try.underlying3 (hval 1 3 v1 rfl rfl) h1
  obtain ⟨a2, rfl, rfl, rfl, w2⟩ := open_int Try.underlying3 (hval 2 3 v2 rfl rfl) h2
  clear hA0 hval0
  simp only [List.append_nil] at hW'
  refine (all c0 v0 hv0 hl0 a1 a2 W rfl).mono fun e W' ⟨he, hg⟩ => ?_
  subst he
  exact ⟨_, rfl, post_of_kept (pa := _) (pv := []) hW' (fun _ _ _ => (trodAll_cons_mk (shut_bool Try.underlying4 _) trodAll_mk0)) (fun sp hsp => (trodAll_cons_mk (kept_trod (by kernel_rfl) (of_decide_eq_true (by kernel_rfl)) h0 hg (fun x hx => hW'.lt x (by simp [hx])) (fun x hx => hsp x (by simp [hx]))) (trodAll_cons_mk (shut_int Try.underlying3 w1) (trodAll_cons_mk (shut_int Try.underlying3 w2) trodAll_mk0)))) (fun _ _ => rfl) hg⟩

theorem over : Rows.fnExactPutBitsRow.holds Try.pinned (OpenSpec.ofChange Rows.fnExactPutBitsSpec) :=
  OpenClaim.holds_of_wide 4 Try.f4 rfl rfl rfl rfl rfl rfl rfl ⟨rfl, rfl, rfl, rfl, rfl⟩ rfl rfl rfl rfl rfl (by kernel_rfl) Try.func4 (by kernel_rfl)
    (of_decide_eq_true (by kernel_rfl)) (by unfold Func.isWrapper; first | (rw [if_pos (by decide +kernel)]; kernel_rfl) | (rw [if_neg (by decide +kernel)]; exact ⟨rfl, rfl⟩))
    (fun os started H enc _ => lifted os started H enc)

theorem proved : Rows.FnExactPutBitsSaid :=
  over
#print axioms proved
end Go.Proofs.Ytaadlhcpgjibeaa.fnExactPutBits
