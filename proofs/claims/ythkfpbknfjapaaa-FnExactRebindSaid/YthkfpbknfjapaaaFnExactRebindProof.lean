/-
  At every list of binds, every action and every chord the program's Rebind answers what the specification's Rebind answers, writes into no argument and keeps nothing of one; its answer owns its memory.
-/
import Derived.Test.YthkfpbknfjapaaaRows
import Derived.Test.YthkfpbknfjapaaaBindsO
import Derived.Test.YthkfpbknfjapaaaBMk17
import Derived.Test.YthkfpbknfjapaaaNumM
import Derived.Test.YthkfpbknfjapaaaSReb17
import Derived.Test.YthkfpbknfjapaaaIReb17
import Derived.ChangeMaps
namespace Go.Proofs.Ythkfpbknfjapaaa.fnExactRebind
open Go.ChangeShapes Go.WideShapes Go.ChangeAt Go.RowKit
set_option linter.unusedVariables false

theorem own : ownKnob Try.prog.godebug = none := by kernel_rfl

theorem sum_le {α : Type} (f : α → Nat) (B : Nat) : ∀ (l : List α), (∀ d ∈ l, f d ≤ B) → (l.map f).sum ≤ l.length * B
  | [], _ => by simp
  | d :: l, h => by
    have h1 := sum_le f B l (fun x hx => h x (List.mem_cons_of_mem _ hx))
    have h2 := h d (List.mem_cons_self ..)
    simp only [List.map_cons, List.sum_cons, List.length_cons, Nat.succ_mul]
    omega
theorem reb_cost (l : List BindD) (a : ByteArray) (c : List Int) (hl : bindsCost l ≤ 1048576) (ha : a.size ≤ 1048576) (hc : c.length ≤ 1048576) : bindsCost (rebA l a c).1 ≤ 50000000 := by
  by_cases h : RebOk l a c
  · rw [rebA_yes h]
    have hr := binds_ris h.1
    have hlen := h.2.1
    have hb := (binds_each hl).2
    have := sum_le bindsOne 2097152 (rebR l a c) (fun d hd => by
      rcases (rebR_mem hr a c d).1 hd with e | e
      · subst e; show a.size + c.length ≤ _; omega
      · have := hb d e.1; show d.1.size + d.2.length ≤ _; omega)
    have h2 : (rebR l a c).length * 2097152 ≤ 20 * 2097152 := Nat.mul_le_mul_right _ hlen
    show (rebR l a c).length + ((rebR l a c).map bindsOne).sum ≤ _
    omega
  · rw [rebA_no h]; decide
set_option maxRecDepth 100000 in
set_option maxHeartbeats 8000000 in
theorem walk (l : List BindD) (a : ByteArray) (c : List Int) (R : List BindD) (lost : ByteArray) (jb : Bool) (v v2 : Value) (w : World) (hv : BindsAt w v l) (hf : BindsFit l) (hv2 : NumAt w v2 c) (hl : bindsCost l ≤ 1048576) (ha : a.size ≤ 1048576) (hn2 : c.length ≤ 1048576) (hR : bindsCost R ≤ 50000000)
    (hS : ∀ (u : World) (ao : Option Addr) (cap : Nat) (ac : Option Addr) (pc : Nat), BindsAt u (.slice ao l.length cap) l → l.length ≤ cap ∧ cap ≤ 9223372036854775807 → NumAt u (.slice ac c.length pc) c → Calls Try.prog 18 #[.slice ao l.length cap, .string a, .slice ac c.length pc] u fun e u' => ∃ v', e = .returned (.tuple #[v', .string lost, .bool jb]) ∧ BindsO u' u.heap.size u'.heap.size v' R ∧ Kept u u')
    (hI : ∀ (u : World) (ao : Option Addr) (cap : Nat) (ac : Option Addr) (pc : Nat), BindsAt u (.slice ao l.length cap) l → l.length ≤ cap ∧ cap ≤ 9223372036854775807 → NumAt u (.slice ac c.length pc) c → Calls Try.prog 20 #[.slice ao l.length cap, .string a, .slice ac c.length pc] u fun e u' => ∃ v', e = .returned (.tuple #[v', .string lost, .bool jb]) ∧ BindsO u' u.heap.size u'.heap.size v' R ∧ Kept u u') :
    Calls Try.prog 5 #[v, .string a, v2] w fun e w' => e = .returned (.bool true) ∧ Kept w w' := by
  have hn : l.length ≤ 1048576 := by unfold bindsCost at hl; omega
  have hRn : R.length ≤ 50000000 := by unfold bindsCost at hR; omega
  have hm1 := bMk_cost l
  have hm2 := bMk_cost R
  have hd1 : decide ((1048576 : Int) - (bindsCost l : Int) < 0) = false := by simp; omega
  have hda : decide ((1048576 : Int) < (a.size : Int)) = false := by simp; omega
  have hdc : decide ((1048576 : Int) < (c.length : Int)) = false := by simp; omega
  obtain ⟨qa, hHA⟩ : ∃ q : Nat, 1 + bMk l = q := ⟨_, rfl⟩
  have HA : Hid (1 + bMk l = qa) := hHA
  have bHA : qa ≤ 200000000 := by omega
  have dHA : decide ((qa : Int) < 0) = false := by simp
  clear hHA
  obtain ⟨qb, hHB⟩ : ∃ q : Nat, qa + c.length = q := ⟨_, rfl⟩
  have HB : Hid (qa + c.length = qb) := hHB
  have bHB : qb ≤ 300000000 := by omega
  have dHB : decide ((qb : Int) < 0) = false := by simp
  clear hHB
  obtain ⟨qd, hHD⟩ : ∃ q : Nat, 1 + bMk R = q := ⟨_, rfl⟩
  have HD : Hid (1 + bMk R = qd) := hHD
  have bHD : qd ≤ 200000000 := by omega
  have dHD : decide ((qd : Int) < 0) = false := by simp
  clear hHD
  obtain ⟨ao, cap, hfm⟩ := hv.form
  subst hfm
  obtain ⟨ap, caq, hfm⟩ := row_nil hv2
  subst hfm
  have HS : Hid _ := hS
  have HI : Hid _ := hI
  clear hS hI
  go_enter Try.func5, Try.ntmps5
  repeat (first | go_values | go_skip | go_guarded | go_step | go_upon)
  go_at_call 13
  refine (szBinds l _ _ _ hv (by omega) (by omega) (by omega) hf).mono ?_
  rintro e u1 ⟨rfl, k1⟩
  rw [leftOf_yes (by omega)]
  have K1 := k1
  have s1 := k1.size
  clear k1
  dsimp only
  repeat (first | go_values | go_skip | go_guarded | go_step | go_upon)
  go_at_call 15
  refine (toBinds l _ _ (hv.kept K1) hl).mono ?_
  rintro e u2 ⟨v2, rfl, t1, k2⟩
  have K2 := K1.trans k2
  have s2 := k2.size
  clear k2 K1
  obtain ⟨ao2, cap2, hfm⟩ := t1.form
  subst hfm
  dsimp only
  repeat (first | go_values | go_skip | go_guarded | go_step | go_upon)
  go_at_call 19
  refine (toNumS c _ _ (hv2.kept K2) hn2).mono ?_
  rintro e u3 ⟨v3, rfl, t2, k3⟩
  have K3 := K2.trans k3
  have t1 := t1.kept k3
  have s3 := k3.size
  clear k3 K2
  obtain ⟨ao3, cap3, hfm⟩ := t2.form
  subst hfm
  dsimp only
  repeat (first | go_values | go_skip | go_guarded | go_step | go_upon)
  go_at_call 18
  refine (HS.out _ _ _ _ _ t1.at (cap_of t1) t2.at).mono ?_
  rintro e u4 ⟨v4, rfl, ow, k4⟩
  have K4 := K3.trans k4
  have t1 := t1.kept k4
  have t2 := t2.kept k4
  have s4 := k4.size
  clear k4 K3
  obtain ⟨ao4, cap4, hfm⟩ := ow.form
  subst hfm
  clear t1 t2
  dsimp only
  repeat (first | go_values | go_skip | go_guarded | go_step | go_upon)
  go_at_call 15
  refine (toBinds l _ _ (hv.kept K4) hl).mono ?_
  rintro e u5 ⟨v5, rfl, x0, k5⟩
  have K5 := K4.trans k5
  have ow := ow.kept k5
  have s5 := k5.size
  clear k5 K4
  obtain ⟨ao5, cap5, hfm⟩ := x0.form
  subst hfm
  dsimp only
  repeat (first | go_values | go_skip | go_guarded | go_step | go_upon)
  go_at_call 19
  refine (toNumS c _ _ (hv2.kept K5) hn2).mono ?_
  rintro e u6 ⟨v6, rfl, x1, k6⟩
  have K6 := K5.trans k6
  have ow := ow.kept k6
  have x0 := x0.kept k6
  have s6 := k6.size
  clear k6 K5
  obtain ⟨ao6, cap6, hfm⟩ := x1.form
  subst hfm
  dsimp only
  repeat (first | go_values | go_skip | go_guarded | go_step | go_upon)
  go_at_call 20
  refine (HI.out _ _ _ _ _ x0.at (cap_of x0) x1.at).mono ?_
  rintro e u7 ⟨v7, rfl, og, k7⟩
  have K7 := K6.trans k7
  have ow := ow.kept k7
  have x0 := x0.kept k7
  have x1 := x1.kept k7
  have s7 := k7.size
  clear k7 K6
  obtain ⟨ao7, cap7, hfm⟩ := og.form
  subst hfm
  dsimp only
  repeat (first | go_values | go_skip | go_guarded | go_step | go_upon)
  go_at_call 17
  refine (eqBinds R _ _ _ og.at ow.at (by omega)).mono ?_
  rintro e u8 ⟨rfl, k8⟩
  have K8 := K7.trans k8
  have ow := ow.kept k8
  have x0 := x0.kept k8
  have x1 := x1.kept k8
  have og := og.kept k8
  have s8 := k8.size
  clear k8 K7
  dsimp only
  repeat (first | go_values | go_skip | go_guarded | go_step | go_upon)
  go_at_call 15
  refine (toBinds l _ _ (hv.kept K8) hl).mono ?_
  rintro e u9 ⟨v9, rfl, y0, k9⟩
  have K9 := K8.trans k9
  have ow := ow.kept k9
  have x0 := x0.kept k9
  have x1 := x1.kept k9
  have og := og.kept k9
  have s9 := k9.size
  clear k9 K8
  obtain ⟨ao9, cap9, hfm⟩ := y0.form
  subst hfm
  dsimp only
  repeat (first | go_values | go_skip | go_guarded | go_step | go_upon)
  go_at_call 17
  refine (eqBinds l _ _ _ x0.at y0.at (by omega)).mono ?_
  rintro e u10 ⟨rfl, k10⟩
  have K10 := K9.trans k10
  have ow := ow.kept k10
  have x0 := x0.kept k10
  have x1 := x1.kept k10
  have og := og.kept k10
  have y0 := y0.kept k10
  have s10 := k10.size
  clear k10 K9
  clear y0
  dsimp only
  repeat (first | go_values | go_skip | go_guarded | go_step | go_upon)
  go_at_call 19
  refine (toNumS c _ _ (hv2.kept K10) hn2).mono ?_
  rintro e u11 ⟨v11, rfl, y1, k11⟩
  have K11 := K10.trans k11
  have ow := ow.kept k11
  have x0 := x0.kept k11
  have x1 := x1.kept k11
  have og := og.kept k11
  have s11 := k11.size
  clear k11 K10
  obtain ⟨ao11, cap11, hfm⟩ := y1.form
  subst hfm
  dsimp only
  repeat (first | go_values | go_skip | go_guarded | go_step | go_upon)
  go_at_call 21
  refine (eqNumS c _ _ _ x1.at y1.at (by omega)).mono ?_
  rintro e u12 ⟨rfl, k12⟩
  have K12 := K11.trans k12
  have ow := ow.kept k12
  have x0 := x0.kept k12
  have x1 := x1.kept k12
  have og := og.kept k12
  have y1 := y1.kept k12
  have s12 := k12.size
  clear k12 K11
  clear y1
  dsimp only
  repeat (first | go_values | go_skip | go_guarded | go_step | go_upon)
  go_at_call 22
  refine (markBinds l _ 1 u4.heap.size u5.heap.size _ x0 (by omega)).mono ?_
  rintro e u13 ⟨rfl, -, b13⟩
  rw [HA.out]
  have k13 := b13
  have K13 := K12.onto k13 (by omega)
  have ow := ow.but k13 (by omega)
  have x1 := x1.but k13 (by omega)
  have og := og.but k13 (by omega)
  have s13 := k13.size
  clear b13 k13 K12 x0
  dsimp only
  repeat (first | go_values | go_skip | go_guarded | go_step | go_upon)
  go_at_call 23
  refine (markNumS c _ qa u5.heap.size u6.heap.size _ x1 (by omega)).mono ?_
  rintro e u14 ⟨rfl, -, b14⟩
  rw [HB.out]
  have k14 := b14.inner x1
  have K14 := K13.onto k14 (by omega)
  have ow := ow.but k14 (by omega)
  have og := og.but k14 (by omega)
  have s14 := k14.size
  clear b14 k14 K13 x1
  dsimp only
  repeat (first | go_values | go_skip | go_guarded | go_step | go_upon)
  go_at_call 17
  refine (eqBinds R _ _ _ og.at ow.at (by omega)).mono ?_
  rintro e u15 ⟨rfl, k15⟩
  have K15 := K14.trans k15
  have ow := ow.kept k15
  have og := og.kept k15
  have s15 := k15.size
  clear k15 K14
  dsimp only
  repeat (first | go_values | go_skip | go_guarded | go_step | go_upon)
  go_at_call 22
  refine (markBinds R _ 1 u6.heap.size u7.heap.size _ og (by omega)).mono ?_
  rintro e u16 ⟨rfl, og2, b16⟩
  rw [HD.out]
  have k16 := b16
  have K16 := K15.onto k16 (by omega)
  have ow := ow.but k16 (by omega)
  have s16 := k16.size
  clear b16 k16 K15 og
  dsimp only
  repeat (first | go_values | go_skip | go_guarded | go_step | go_upon)
  go_at_call 24
  refine (heldBinds R _ 1 _ og2.at (by omega) (by omega)).mono ?_
  rintro e u17 ⟨rfl, k17⟩
  rw [HD.out]
  have K17 := K16.trans k17
  have ow := ow.kept k17
  have og2 := og2.kept k17
  have s17 := k17.size
  clear k17 K16
  dsimp only
  repeat (first | go_values | go_skip | go_guarded | go_step | go_upon)
  go_at_call 15
  refine (toBinds l _ _ (hv.kept K17) hl).mono ?_
  rintro e u18 ⟨v18, rfl, z0, k18⟩
  have K18 := K17.trans k18
  have ow := ow.kept k18
  have og2 := og2.kept k18
  have s18 := k18.size
  clear k18 K17
  obtain ⟨ao18, cap18, hfm⟩ := z0.form
  subst hfm
  dsimp only
  repeat (first | go_values | go_skip | go_guarded | go_step | go_upon)
  go_at_call 19
  refine (toNumS c _ _ (hv2.kept K18) hn2).mono ?_
  rintro e u19 ⟨v19, rfl, z1, k19⟩
  have K19 := K18.trans k19
  have ow := ow.kept k19
  have og2 := og2.kept k19
  have z0 := z0.kept k19
  have s19 := k19.size
  clear k19 K18
  obtain ⟨ao19, cap19, hfm⟩ := z1.form
  subst hfm
  dsimp only
  repeat (first | go_values | go_skip | go_guarded | go_step | go_upon)
  go_at_call 20
  refine (HI.out _ _ _ _ _ z0.at (cap_of z0) z1.at).mono ?_
  rintro e u20 ⟨v20, rfl, oh, k20⟩
  have K20 := K19.trans k20
  have ow := ow.kept k20
  have og2 := og2.kept k20
  have z0 := z0.kept k20
  have z1 := z1.kept k20
  have s20 := k20.size
  clear k20 K19
  obtain ⟨ao20, cap20, hfm⟩ := oh.form
  subst hfm
  clear z0 z1
  dsimp only
  repeat (first | go_values | go_skip | go_guarded | go_step | go_upon)
  go_at_call 17
  refine (eqBinds R _ _ _ oh.at ow.at (by omega)).mono ?_
  rintro e u21 ⟨rfl, k21⟩
  have K21 := K20.trans k21
  have ow := ow.kept k21
  have og2 := og2.kept k21
  have oh := oh.kept k21
  have s21 := k21.size
  clear k21 K20
  clear oh ow
  dsimp only
  repeat (first | go_values | go_skip | go_guarded | go_step | go_upon)
  go_at_call 24
  refine (heldBinds R _ 1 _ og2.at (by omega) (by omega)).mono ?_
  rintro e u22 ⟨rfl, k22⟩
  rw [HD.out]
  have K22 := K21.trans k22
  have og2 := og2.kept k22
  have s22 := k22.size
  clear k22 K21
  dsimp only
  repeat (first | go_values | go_skip | go_guarded | go_step | go_upon)
  go_ret
  exact ⟨rfl, K22⟩
set_option maxRecDepth 100000 in
set_option maxHeartbeats 8000000 in
theorem big (l : List BindD) (a : ByteArray) (c : List Int) (v v2 : Value) (w : World) (hv : BindsAt w v l) (hf : BindsFit l) (hv2 : NumAt w v2 c) (ha : a.size ≤ 1048576) (hn2 : c.length ≤ 1048576) (hlen : l.length ≤ maxLen) (hl : 1048576 < bindsCost l) :
    Calls Try.prog 5 #[v, .string a, v2] w fun e w' => e = .returned (.bool true) ∧ Kept w w' := by
  unfold maxLen at hlen
  have hda : decide ((1048576 : Int) < (a.size : Int)) = false := by simp; omega
  have hdc : decide ((1048576 : Int) < (c.length : Int)) = false := by simp; omega
  obtain ⟨ao, cap, hfm⟩ := hv.form
  subst hfm
  obtain ⟨ap, caq, hfm⟩ := row_nil hv2
  subst hfm
  go_enter Try.func5, Try.ntmps5
  repeat (first | go_values | go_skip | go_guarded | go_step | go_upon)
  go_at_call 13
  refine (szBinds l _ _ _ hv (by omega) (by omega) (by omega) hf).mono ?_
  rintro e u1 ⟨rfl, k1⟩
  rw [leftOf_no (by omega)]
  dsimp only
  repeat (first | go_values | go_skip | go_guarded | go_step | go_upon)
  go_ret
  exact ⟨rfl, k1⟩
set_option maxRecDepth 100000 in
set_option maxHeartbeats 8000000 in
theorem longc (l : List BindD) (a : ByteArray) (c : List Int) (v v2 : Value) (w : World) (hv : BindsAt w v l) (hf : BindsFit l) (hv2 : NumAt w v2 c) (ha : a.size ≤ 1048576) (hc : 1048576 < c.length) (hcw : c.length ≤ maxLen) :
    Calls Try.prog 5 #[v, .string a, v2] w fun e w' => e = .returned (.bool true) ∧ Kept w w' := by
  unfold maxLen at hcw
  have hda : decide ((1048576 : Int) < (a.size : Int)) = false := by simp; omega
  have hdc : decide ((1048576 : Int) < (c.length : Int)) = true := by simp; omega
  obtain ⟨ao, cap, hfm⟩ := hv.form
  subst hfm
  obtain ⟨ap, caq, hfm⟩ := row_nil hv2
  subst hfm
  go_enter Try.func5, Try.ntmps5
  repeat (first | go_values | go_skip | go_guarded | go_step | go_upon)
  go_ret
  exact ⟨rfl, But.refl _ _ _⟩
set_option maxRecDepth 100000 in
set_option maxHeartbeats 8000000 in
theorem long (l : List BindD) (a : ByteArray) (c : List Int) (v v2 : Value) (w : World) (hv : BindsAt w v l) (hf : BindsFit l) (hv2 : NumAt w v2 c) (ha : 1048576 < a.size) (haw : a.size ≤ maxLen) :
    Calls Try.prog 5 #[v, .string a, v2] w fun e w' => e = .returned (.bool true) ∧ Kept w w' := by
  unfold maxLen at haw
  have hda : decide ((1048576 : Int) < (a.size : Int)) = true := by simp; omega
  obtain ⟨ao, cap, hfm⟩ := hv.form
  subst hfm
  obtain ⟨ap, caq, hfm⟩ := row_nil hv2
  subst hfm
  go_enter Try.func5, Try.ntmps5
  repeat (first | go_values | go_skip | go_guarded | go_step | go_upon)
  go_ret
  exact ⟨rfl, But.refl _ _ _⟩
theorem all (l : List BindD) (v : Value) {w : World} (hv : BindsAt w v l) (hf : BindsFit l) (hlen : l.length ≤ maxLen) (a : ByteArray) (haw : a.size ≤ maxLen) (c : List Int) (v2 : Value) (hv2 : NumAt w v2 c) (_ : ∀ p ∈ c, True) (hlen2 : c.length ≤ maxLen) (w' : World) (_ : w' = w) :
    Calls Try.prog 5 #[v, .string a, v2] w fun e w' => e = .returned (.bool true) ∧ Kept w w' := by
  by_cases ha : a.size ≤ 1048576
  · by_cases hc : c.length ≤ 1048576
    · by_cases hl : bindsCost l ≤ 1048576
      · exact walk l a c _ _ _ v v2 w hv hf hv2 hl ha hc (reb_cost l a c hl ha hc) (fun u ao cap ac pc h1 h2 h3 => srebind l a c ao cap ac pc u h1 h2 h3 hl ha hc) (fun u ao cap ac pc h1 h2 h3 => irebind l a c ao cap ac pc u h1 h2 h3 hl ha hc)
      · exact big l a c v v2 w hv hf hv2 ha hc hlen (by omega)
    · exact longc l a c v v2 w hv hf hv2 ha (by omega) hlen2
  · exact long l a c v v2 w hv hf hv2 (by omega) haw


set_option maxRecDepth 100000 in
theorem lifted (os : Os) (started : os.Started) (H : Type) (enc : TypeId × Value → H) :
    ReturnsInHanded {} Try.checked os 5 .any (Rows.fnExactRebindSpec.pre6 enc Try.prog Try.f5 Rows.fnExactRebindRow.domain false) (Rows.fnExactRebindSpec.post enc Try.prog Try.f5 false true false false) := by
  refine returnsInHanded_of_change (C := Try.checked) own started (by kernel_rfl) Try.func5
    (ChangeSpec.witness6 (enc := enc) (C := Try.checked) false ⟨#[], #[.slice none 0 0, .string ByteArray.empty, .slice none 0 0], []⟩ 8 (by kernel_rfl) (by kernel_rfl) (by kernel_rfl) (by kernel_rfl)) ?_
  intro W base args ds gs before hval0 hW hcnd _
  have hval : ∀ (j : Nat) t v, Try.f5.params[j]? = some t → args[j]? = some v → Value.okWide Try.prog W .any base t v := hval0
  have hW' := hW
  obtain ⟨p, q, hA0, hV, rfl, hfz, hnd⟩ := hW
  have hA : DataW.TrodAll enc Try.prog W 0 (fun _ => true) true Try.f5.params.toList args.toList ds p := hA0
  rw [Try.params5] at hA hval
  obtain ⟨v0, vs0, d0, ds0, p0, q0, hargs, rfl, rfl, h0, r0⟩ := trodAll_cons hA
  obtain ⟨v1, vs1, d1, ds1, p1, q1, rfl, rfl, rfl, h1, r1⟩ := trodAll_cons r0
  obtain ⟨v2, vs2, d2, ds2, p2, q2, rfl, rfl, rfl, h2, r2⟩ := trodAll_cons r1
  obtain ⟨rfl, rfl, rfl⟩ := trodAll_nil r2
  obtain rfl : args = #[v0, v1, v2] := by cases args; simp_all
  obtain ⟨rfl, rfl⟩ := trodVars_none hV
  obtain ⟨l0, hv0, hq0, hl0⟩ := open_binds (hval 0 33 v0 rfl rfl) h0
  obtain ⟨a1, rfl, rfl, rfl, w1⟩ := Go.ChangeMaps.open_string Try.underlying9 (hval 1 9 v1 rfl rfl) h1
  obtain ⟨l2, hv2, hq2, hl2⟩ := open_numS (hval 2 39 v2 rfl rfl) h2
  clear hA0 hval0
  simp only [List.append_nil] at hW'
  refine (all l0 v0 hv0 hq0 hl0 a1 w1 l2 v2 hv2 hq2 hl2 W rfl).mono fun e W' ⟨he, hg⟩ => ?_
  subst he
  exact ⟨_, rfl, post_of_kept (pa := _) (pv := []) hW' (fun _ _ _ => (trodAll_cons_mk (shut_bool Try.underlying4 _) trodAll_mk0)) (fun sp hsp => (trodAll_cons_mk (kept_trod (by kernel_rfl) (of_decide_eq_true (by kernel_rfl)) h0 hg (fun x hx => hW'.lt x (by simp [hx])) (fun x hx => hsp x (by simp [hx]))) (trodAll_cons_mk (Go.ChangeMaps.shut_string Try.underlying9 w1) (trodAll_cons_mk (kept_trod (by kernel_rfl) (of_decide_eq_true (by kernel_rfl)) h2 hg (fun x hx => hW'.lt x (by simp [hx])) (fun x hx => hsp x (by simp [hx]))) trodAll_mk0)))) (fun _ _ => rfl) hg⟩

theorem over : Rows.fnExactRebindRow.holds Try.pinned (OpenSpec.ofChange Rows.fnExactRebindSpec) :=
  OpenClaim.holds_of_wide 5 Try.f5 rfl rfl rfl rfl rfl rfl rfl ⟨rfl, rfl, rfl, rfl, rfl⟩ rfl rfl rfl rfl rfl (by kernel_rfl) Try.func5 (by kernel_rfl)
    (of_decide_eq_true (by kernel_rfl)) (by unfold Func.isWrapper; first | (rw [if_pos (by decide +kernel)]; kernel_rfl) | (rw [if_neg (by decide +kernel)]; exact ⟨rfl, rfl⟩))
    (fun os started H enc _ => lifted os started H enc)

theorem proved : Rows.FnExactRebindSaid :=
  over
#print axioms proved
end Go.Proofs.Ythkfpbknfjapaaa.fnExactRebind
